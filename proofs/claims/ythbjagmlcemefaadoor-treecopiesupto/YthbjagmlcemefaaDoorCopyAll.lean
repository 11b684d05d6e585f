/- Copies of expressions, in plain words: what is the same, places too; where a tree's blocks lie; a tree that is partly copied. -/
import Derived.Test.YthbjagmlcemefaaDoorTreeProgs
import Derived.Test.YthbjagmlcemefaaDoorTreeFrames
import Derived.Test.YthbjagmlcemefaaDoorExSame
import Derived.Test.YthbjagmlcemefaaDoorExCalls
import Derived.OwnWalk
import Derived.Laws.OwnMore
import Derived.Test.YthbjagmlcemefaaDoorTreePart
import Derived.WalkKit
import Derived.Lib.SliceRun
import Derived.Test.YthbjagmlcemefaaDoorTreeWalk
import Derived.Test.YthbjagmlcemefaaDoorExWeigh
import Derived.Test.YthbjagmlcemefaaDoorTreeMeasure
import Derived.Test.YthbjagmlcemefaaDoorTreeExprMay
import Derived.Deep.RegionHeld3
import Derived.Deep.AppendLies
import Derived.Test.YthbjagmlcemefaaDoorTreeNode
import Derived.Deep.DeepCutAuto
import Derived.Test.YthbjagmlcemefaaDoorTreeMay
import Derived.Test.YthbjagmlcemefaaDoorTreeSameProg
namespace Go.Proofs.YthbjagmlcemefaaDoor
open Go.RowKit
open Ex.size Ex.depth Ex.lies Ex.bulk Ex.good Ex.same Ex.calls
/-- The same, places too. -/
def Ex.like : Ex → Ex → Prop
  | .mk kd pl nm it dn _ _ l, .mk kd' pl' nm' it' dn' _ _ l' => (kd = kd' ∧ pl = pl' ∧ nm = nm' ∧ it = it' ∧ dn = dn') ∧ likes l l'
where likes : List Ex → List Ex → Prop
  | [], [] => True
  | e :: r, e' :: r' => e.like e' ∧ likes r r'
  | [], _ :: _ => False
  | _ :: _, [] => False
open Ex.like
theorem likes_len : ∀ {l l' : List Ex}, likes l l' → l.length = l'.length
  | [], [], _ => rfl
  | _ :: _, _ :: _, h => by simp only [List.length_cons, likes_len h.2]
theorem likes_get : ∀ {l l' : List Ex} (_ : likes l l') (i : Nat) (h : i < l.length) (h' : i < l'.length), l[i].like l'[i]
  | _ :: _, _ :: _, hl, 0, _, _ => hl.1
  | _ :: _, _ :: _, hl, i + 1, h, h' => likes_get hl.2 i (by simpa using h) (by simpa using h')
theorem like_refl : ∀ e : Ex, e.like e
  | .mk _ _ _ _ _ _ _ l => ⟨⟨rfl, rfl, rfl, rfl, rfl⟩, all l⟩
where all : ∀ l : List Ex, likes l l
  | [] => trivial
  | e :: r => ⟨like_refl e, all r⟩
theorem like_symm : ∀ {a b : Ex}, a.like b → b.like a
  | .mk _ _ _ _ _ _ _ _, .mk _ _ _ _ _ _ _ _, ⟨⟨h1, h2, h3, h4, h5⟩, h⟩ => ⟨⟨h1.symm, h2.symm, h3.symm, h4.symm, h5.symm⟩, all h⟩
where all : ∀ {l l' : List Ex}, likes l l' → likes l' l
  | [], [], _ => trivial
  | _ :: _, _ :: _, h => ⟨like_symm h.1, all h.2⟩
theorem like_size : ∀ {a b : Ex}, a.like b → a.size = b.size
  | .mk _ _ _ _ _ _ _ _, .mk _ _ _ _ _ _ _ _, ⟨_, h⟩ => by simp only [Ex.size, all h]
where all : ∀ {l l' : List Ex}, likes l l' → sizes l = sizes l'
  | [], [], _ => rfl
  | _ :: _, _ :: _, h => by simp only [sizes, like_size h.1, all h.2]
theorem like_depth : ∀ {a b : Ex}, a.like b → a.depth = b.depth
  | .mk _ _ _ _ _ _ _ _, .mk _ _ _ _ _ _ _ _, ⟨_, h⟩ => by simp only [Ex.depth, all h]
where all : ∀ {l l' : List Ex}, likes l l' → deepest l = deepest l'
  | [], [], _ => rfl
  | _ :: _, _ :: _, h => by simp only [deepest, like_depth h.1, all h.2]
theorem like_bulk : ∀ {a b : Ex}, a.like b → a.bulk = b.bulk
  | .mk _ _ _ _ _ _ _ _, .mk _ _ _ _ _ _ _ _, ⟨⟨_, _, h3, _⟩, h⟩ => by simp only [Ex.bulk, all h, h3]
where all : ∀ {l l' : List Ex}, likes l l' → bulks l = bulks l'
  | [], [], _ => rfl
  | _ :: _, _ :: _, h => by simp only [bulks, like_bulk h.1, all h.2]
theorem like_calls : ∀ {a b : Ex}, a.like b → a.calls = b.calls
  | .mk _ _ _ _ _ _ _ _, .mk _ _ _ _ _ _ _ _, ⟨⟨h1, _, h3, _⟩, h⟩ => by simp only [Ex.calls, all h, h1, h3]
where all : ∀ {l l' : List Ex}, likes l l' → callsAll l = callsAll l'
  | [], [], _ => rfl
  | _ :: _, _ :: _, h => by simp only [callsAll, like_calls h.1, all h.2]
theorem like_same : ∀ {a b : Ex}, a.like b → a.same b = true
  | .mk _ _ _ _ _ _ _ _, .mk _ _ _ _ _ _ _ _, ⟨⟨h1, _, h3, h4, h5⟩, h⟩ => by
    have h6 := likes_len h
    simp only [Ex.same, all h, h1, h3, h4, h5, h6, beq_self_eq_true, Bool.and_true]
where all : ∀ {l l' : List Ex}, likes l l' → sames l l' = true
  | [], [], _ => rfl
  | _ :: _, _ :: _, h => by simp only [sames, like_same h.1, all h.2, Bool.and_true]
/-- All blocks of Args lie between. -/
def Ex.inR (lo hi : Nat) : Ex → Prop
  | .mk _ _ _ _ _ a _ l => (l ≠ [] → ∃ b o, a = some ⟨b, o, none⟩ ∧ lo ≤ b ∧ b < hi) ∧ inRs l
where inRs : List Ex → Prop
  | [] => True
  | e :: r => e.inR lo hi ∧ inRs r
open Ex.inR
theorem inR_mono {lo hi lo' hi' : Nat} (h1 : lo' ≤ lo) (h2 : hi ≤ hi') : ∀ {e : Ex}, e.inR lo hi → e.inR lo' hi'
  | .mk _ _ _ _ _ _ _ _, ⟨h, hl⟩ => ⟨fun hne => by obtain ⟨b, o, e, l1, l2⟩ := h hne; exact ⟨b, o, e, by omega, by omega⟩, all hl⟩
where all : ∀ {l : List Ex}, inRs lo hi l → inRs lo' hi' l
  | [], _ => trivial
  | _ :: _, h => ⟨inR_mono h1 h2 h.1, all h.2⟩
theorem inRs_get {lo hi : Nat} : ∀ {l : List Ex} (_ : inRs lo hi l) (i : Nat) (h : i < l.length), l[i].inR lo hi
  | _ :: _, hl, 0, _ => hl.1
  | _ :: _, hl, i + 1, h => inRs_get hl.2 i (by simpa using h)
/-- What lies between lies so wherever these blocks are as they were. -/
theorem lies_inR {lo hi : Nat} {w w' : World} (hw : ∀ b, lo ≤ b → b < hi → w'.heap[b]? = w.heap[b]?) : ∀ {e : Ex}, e.inR lo hi → e.lies w → e.lies w'
  | .mk _ _ _ _ _ a _ l, ⟨h, hl⟩, ⟨b, o, h1, h2⟩ => by
    by_cases hne : l = []
    · subst hne
      exact ⟨b, o, h1, trivial⟩
    · obtain ⟨b', o', e', l1, l2⟩ := h hne
      have e2 := (h1 hne).symm.trans e'
      have e3 : b = b' := by injection e2 with e2; injection e2
      subst e3
      exact ⟨b, o, h1, all (hw b l1 l2) hl h2⟩
where all {b : Nat} (hb : w'.heap[b]? = w.heap[b]?) : ∀ {o : Nat} {l : List Ex}, inRs lo hi l → lieAt w b o l → lieAt w' b o l
  | _, [], _, _ => trivial
  | _, _ :: _, h, ⟨g1, g2, g3⟩ => ⟨fun j hj => (World.cell?_of_block hb).trans (g1 j hj), lies_inR hw h.1 g2, all hb h.2 g3⟩
/-- Two trees that lie in one place are one. -/
theorem cells_len (e : Ex) : e.cells.length = 6 := by cases e; rfl
theorem lies_inj {w : World} : ∀ {a b : Ex}, a.cells = b.cells → a.lies w → b.lies w → a = b
  | .mk kd pl nm it dn ad cap l, .mk kd' pl' nm' it' dn' ad' cap' l', hc, ⟨b1, o1, h1, g1⟩, ⟨b2, o2, h2, g2⟩ => by
    simp only [Ex.cells, List.cons.injEq, Value.int.injEq, Value.string.injEq, Value.slice.injEq, and_true, true_and] at hc
    obtain ⟨rfl, rfl, rfl, rfl, rfl, rfl, hlen, rfl⟩ := hc
    by_cases hne : l = []
    · subst hne
      have : l' = [] := List.eq_nil_of_length_eq_zero hlen.symm
      rw [this]
    · have hne' : l' ≠ [] := fun h => hne (List.eq_nil_of_length_eq_zero (by rw [hlen, h]; rfl))
      have e2 := (h1 hne).symm.trans (h2 hne')
      have e3 : b1 = b2 ∧ o1 = o2 := by injection e2 with e2; injection e2; exact ⟨by assumption, by assumption⟩
      obtain ⟨rfl, rfl⟩ := e3
      rw [all hlen g1 g2]
where all {b : Nat} : ∀ {o : Nat} {l l' : List Ex}, l.length = l'.length → lieAt w b o l → lieAt w b o l' → l = l'
  | _, [], [], _, _, _ => rfl
  | _, x :: r, y :: r', hlen, ⟨g1, g2, g3⟩, ⟨k1, k2, k3⟩ => by
    have hxy : x = y := lies_inj (List.ext_getElem? fun j => by
      by_cases hj : j < 6
      · rw [← g1 j hj, ← k1 j hj]
      · rw [List.getElem?_eq_none (by rw [cells_len]; omega), List.getElem?_eq_none (by rw [cells_len]; omega)]) g2 k2
    rw [hxy, all (by simpa using hlen) g3 k3]
/-- A block of expressions, not frozen. -/
def exBlock (w : World) (b : Nat) : Prop := ∃ cur, w.heap[b]? = some (.cells cur 33 (0, 0))
/-- The Args lie in blocks of their own, whatever their kinds are. -/
def Ex.skel (w : World) : Ex → Prop
  | .mk _ _ _ _ _ a _ l => l ≠ [] → ∃ b, a = some ⟨b, 0, none⟩ ∧ exBlock w b ∧ skelAt b 0 l
where skelAt (b : Nat) : Nat → List Ex → Prop
  | _, [] => True
  | o, e :: r => ((∃ k0, w.cell? ⟨b, o, none⟩ = some (.int .u8 k0)) ∧ ∀ j, 1 ≤ j → j < 6 → w.cell? ⟨b, o + j, none⟩ = e.cells[j]?) ∧ e.skel w ∧ skelAt b (o + 6) r
open Ex.skel
theorem skelAt_get {w : World} {b : Nat} : ∀ (l : List Ex) (o i : Nat), skelAt w b o l → (hi : i < l.length) → ((∃ k0, w.cell? ⟨b, o + i * 6, none⟩ = some (.int .u8 k0)) ∧ ∀ j, 1 ≤ j → j < 6 → w.cell? ⟨b, o + i * 6 + j, none⟩ = l[i].cells[j]?) ∧ l[i].skel w
  | e :: r, o, 0, h, _ => by simpa using ⟨h.1, h.2.1⟩
  | e :: r, o, i + 1, h, hi => by
    have := skelAt_get r (o + 6) i h.2.2 (by simpa using hi)
    rw [show o + (i + 1) * 6 = o + 6 + i * 6 by omega]
    exact this
/-- Blocks of expressions are such again; of their cells only kinds are turned. -/
structure Spoilt (w w' : World) : Prop where
  blk : ∀ b, exBlock w b → exBlock w' b
  cell : ∀ b j, exBlock w b → w'.cell? ⟨b, j, none⟩ = w.cell? ⟨b, j, none⟩ ∨ (j % 6 = 0 ∧ w'.cell? ⟨b, j, none⟩ = some (.int .u8 99))
theorem Spoilt.trans {a b c : World} (h : Spoilt a b) (k : Spoilt b c) : Spoilt a c :=
  ⟨fun x hx => k.blk x (h.blk x hx), fun x j hx => by
    rcases k.cell x j (h.blk x hx) with h1 | h1
    · rcases h.cell x j hx with h2 | h2
      · exact .inl (h1.trans h2)
      · exact .inr ⟨h2.1, h1.trans h2.2⟩
    · exact .inr h1⟩
theorem Spoilt.of_same {w w' : World} (hw : ∀ b, exBlock w b → w'.heap[b]? = w.heap[b]?) : Spoilt w w' :=
  ⟨fun b ⟨cur, hc⟩ => ⟨cur, (hw b ⟨cur, hc⟩).trans hc⟩, fun b _ hb => .inl (World.cell?_of_block (hw b hb))⟩
theorem skel_spoilt {w w' : World} (hs : Spoilt w w') : ∀ {e : Ex}, e.skel w → e.skel w'
  | .mk _ _ _ _ _ _ _ l, h => fun hne => by
    obtain ⟨b, h1, h2, h3⟩ := h hne
    exact ⟨b, h1, hs.blk b h2, all h2 0 l rfl h3⟩
where all {b : Nat} (hb : exBlock w b) : ∀ (o : Nat) (l : List Ex), o % 6 = 0 → skelAt w b o l → skelAt w' b o l
  | _, [], _, _ => trivial
  | o, e :: r, ho, ⟨⟨⟨k0, g1⟩, g2⟩, g3, g4⟩ => ⟨⟨by
      rcases hs.cell b o hb with h | h
      · exact ⟨k0, h.trans g1⟩
      · exact ⟨99, h.2⟩, fun j h1 h2 => by
      rcases hs.cell b (o + j) hb with h | h
      · exact h.trans (g2 j h1 h2)
      · omega⟩, skel_spoilt hs g3, all hb (o + 6) r (by omega) g4⟩
theorem skel_inR {lo hi : Nat} {w w' : World} (hw : ∀ b, lo ≤ b → b < hi → w'.heap[b]? = w.heap[b]?) : ∀ {e : Ex}, e.inR lo hi → e.skel w → e.skel w'
  | .mk _ _ _ _ _ a _ l, ⟨h, hl⟩, hk => fun hne => by
    obtain ⟨b, h1, ⟨cur, h2⟩, h3⟩ := hk hne
    obtain ⟨b', o', e', l1, l2⟩ := h hne
    have e2 := h1.symm.trans e'
    have e3 : b = b' := by injection e2 with e2; injection e2
    subst e3
    exact ⟨b, h1, ⟨cur, (hw b l1 l2).trans h2⟩, all (hw b l1 l2) 0 l hl h3⟩
where all {b : Nat} (hb : w'.heap[b]? = w.heap[b]?) : ∀ (o : Nat) (l : List Ex), inRs lo hi l → skelAt w b o l → skelAt w' b o l
  | _, [], _, _ => trivial
  | o, e :: r, h, ⟨⟨⟨k0, g1⟩, g2⟩, g3, g4⟩ => ⟨⟨⟨k0, (World.cell?_of_block hb).trans g1⟩, fun j h1 h2 => (World.cell?_of_block hb).trans (g2 j h1 h2)⟩, skel_inR hw h.1 g3, all hb (o + 6) r h.2 g4⟩
/-- At a place of a block there is a copy of an expression, but for what is still to be done there. -/
def Ex.cp (w : World) (B : Nat) (H : Nat → Nat → Ex → Prop) : Ex → Nat → Nat → Prop
  | .mk kd pl nm it dn ad cap l => fun b o => H b o (.mk kd pl nm it dn ad cap l) ∨
    ((w.cell? ⟨b, o, none⟩ = some (.int .u8 kd) ∧ w.cell? ⟨b, o + 1, none⟩ = some (.int .i64 pl) ∧ w.cell? ⟨b, o + 2, none⟩ = some (.string nm) ∧ w.cell? ⟨b, o + 3, none⟩ = some (.int .i64 it) ∧ w.cell? ⟨b, o + 4, none⟩ = some (.int .i64 dn)) ∧
      ∃ a c, w.cell? ⟨b, o + 5, none⟩ = some (.slice a l.length c) ∧ l.length ≤ c ∧ c ≤ maxLen ∧ (l ≠ [] → ∃ b', a = some ⟨b', 0, none⟩ ∧ B ≤ b' ∧ exBlock w b' ∧ cps b' 0 l))
where cps (b' : Nat) : Nat → List Ex → Prop
  | _, [] => True
  | o, e :: r => e.cp w B H b' o ∧ cps b' (o + 6) r
open Ex.cp
theorem cps_of {w : World} {B : Nat} {H : Nat → Nat → Ex → Prop} {b' : Nat} : ∀ (l : List Ex) (o : Nat), (∀ i (h : i < l.length), H b' (o + i * 6) l[i]) → cps w B H b' o l
  | [], _, _ => trivial
  | e :: r, o, h => ⟨by
      have := h 0 (by simp)
      rw [Nat.zero_mul, Nat.add_zero, List.getElem_cons_zero] at this
      obtain ⟨kd, pl, nm, it, dn, ad, cap, l⟩ := e
      exact .inl this, cps_of r (o + 6) fun i hi => by
      have := h (i + 1) (by simpa using hi)
      rw [List.getElem_cons_succ] at this
      rw [show o + 6 + i * 6 = o + (i + 1) * 6 by omega]
      exact this⟩
/-- A copy stays one where blocks of expressions are as they were. -/
theorem cp_keep {w w' : World} {B : Nat} {H : Nat → Nat → Ex → Prop} (hw : ∀ b, exBlock w b → w'.heap[b]? = w.heap[b]?) : ∀ (e : Ex) (b o : Nat), exBlock w b → e.cp w B H b o → e.cp w' B H b o
  | .mk _ _ _ _ _ _ _ l, b, o, hb, h => by
    have hc : ∀ j, w'.cell? ⟨b, j, none⟩ = w.cell? ⟨b, j, none⟩ := fun j => World.cell?_of_block (hw b hb)
    rcases h with h | ⟨⟨h0, h1, h2, h3, h4⟩, a, c, h5, h6, h7, h8⟩
    · exact .inl h
    · refine .inr ⟨⟨(hc _).trans h0, (hc _).trans h1, (hc _).trans h2, (hc _).trans h3, (hc _).trans h4⟩, a, c, (hc _).trans h5, h6, h7, fun hne => ?_⟩
      obtain ⟨b', k1, k2, k3, k4⟩ := h8 hne
      exact ⟨b', k1, k2, by obtain ⟨cur, hcur⟩ := k3; exact ⟨cur, (hw b' ⟨cur, hcur⟩).trans hcur⟩, all b' k3 0 l k4⟩
where all (b' : Nat) (hb : exBlock w b') : ∀ (o : Nat) (l : List Ex), cps w B H b' o l → cps w' B H b' o l
  | _, [], _ => trivial
  | o, e :: r, h => ⟨cp_keep hw e b' o hb h.1, all b' hb (o + 6) r h.2⟩
theorem exBlock_set {w : World} {b x : Nat} {j : Nat} {v : Value} (h : exBlock w x) : exBlock (w.setCell ⟨b, j, none⟩ v) x := by
  obtain ⟨cur, hcur⟩ := h
  by_cases hx : x = b
  · subst hx
    refine ⟨cur.setIfInBounds j v, ?_⟩
    simp [World.setCell, Array.getElem?_modify, hcur]
  · exact ⟨cur, (Below.heap_setCell _ _ _ _ hx).trans hcur⟩
theorem exBlock_free {w : World} {b j : Nat} (h : exBlock w b) : w.frozen? ⟨b, j, none⟩ = false := by
  obtain ⟨cur, hcur⟩ := h
  simp [World.frozen?, hcur]
theorem exBlock_lt {w : World} {b : Nat} (h : exBlock w b) : b < w.heap.size := by
  obtain ⟨cur, hcur⟩ := h
  exact lt_of_block hcur
/-- One place more is done. -/
theorem cp_step {w : World} {B : Nat} {H H' : Nat → Nat → Ex → Prop} {b o : Nat} {e : Ex} {a' : Option Addr} {c' : Nat} (ho : o % 6 = 0) (hcell : ∀ j, j < 6 → w.cell? ⟨b, o + j, none⟩ = e.cells[j]?) (hlow : e.args ≠ [] → ∃ b0 o0, e.ad = some ⟨b0, o0, none⟩ ∧ b0 < B)
    (hc1 : e.args.length ≤ c') (hc2 : c' ≤ maxLen) (hnew : e.args ≠ [] → ∃ b', a' = some ⟨b', 0, none⟩ ∧ B ≤ b' ∧ exBlock w b' ∧ ∀ i (h : i < e.args.length), H' b' (i * 6) e.args[i])
    (hH : ∀ x y e1, H x y e1 → ¬ (x = b ∧ y = o) → H' x y e1) (huniq : ∀ e1, H b o e1 → e1 = e) :
    ∀ (e1 : Ex) (x y : Nat), y % 6 = 0 → e1.cp w B H x y → e1.cp (w.setCell ⟨b, o + 5, none⟩ (.slice a' e.args.length c')) B H' x y
  | .mk kd pl nm it dn ad cap l, x, y, hy, h => by
    have same : ∀ x y, ¬ (x = b ∧ y = o + 5) → (w.setCell ⟨b, o + 5, none⟩ (.slice a' e.args.length c')).cell? ⟨x, y, none⟩ = w.cell? ⟨x, y, none⟩ := fun x y hne => World.cell?_setCell_other _ _ _ _ (by simp only [ne_eq, Addr.mk.injEq, and_true]; omega)
    have here : (w.setCell ⟨b, o + 5, none⟩ (.slice a' e.args.length c')).cell? ⟨b, o + 5, none⟩ = some (.slice a' e.args.length c') := World.cell?_setCell_same _ _ _ ((hcell 5 (by omega)).trans (List.getElem?_eq_getElem (by rw [cells_len]; omega)))
    rcases h with h | ⟨⟨h0, h1, h2, h3, h4⟩, a, c, h5, h6, h7, h8⟩
    · by_cases hxy : x = b ∧ y = o
      · obtain ⟨rfl, rfl⟩ := hxy
        have he := huniq _ h
        subst he
        refine .inr ⟨⟨(same _ _ (by omega)).trans (hcell 0 (by omega)), (same _ _ (by omega)).trans (hcell 1 (by omega)), (same _ _ (by omega)).trans (hcell 2 (by omega)), (same _ _ (by omega)).trans (hcell 3 (by omega)), (same _ _ (by omega)).trans (hcell 4 (by omega))⟩, a', c', here, hc1, hc2, fun hne => ?_⟩
        obtain ⟨b', k1, k2, k3, k4⟩ := hnew hne
        exact ⟨b', k1, k2, exBlock_set k3, cps_of l 0 fun i hi => by rw [Nat.zero_add]; exact k4 i hi⟩
      · exact .inl (hH _ _ _ h hxy)
    · by_cases hxy : x = b ∧ y = o
      · obtain ⟨rfl, rfl⟩ := hxy
        have h5' := h5.symm.trans (hcell 5 (by omega))
        have hl : l = [] := by
          refine Classical.byContradiction fun hne => ?_
          obtain ⟨b', k1, k2, -, -⟩ := h8 hne
          obtain ⟨kd2, pl2, nm2, it2, dn2, ad2, cap2, l2⟩ := e
          simp only [Ex.cells, List.getElem?_cons_succ, List.getElem?_cons_zero, Option.some.injEq, Value.slice.injEq] at h5'
          obtain ⟨b0, o0, q1, q2⟩ := hlow (fun h => hne (List.eq_nil_of_length_eq_zero (by simp only at h; rw [h5'.2.1, h]; rfl)))
          have := (k1.symm.trans h5'.1).trans q1
          injection this with this
          injection this
          omega
        subst hl
        have hlen : e.args.length = 0 := by
          obtain ⟨kd2, pl2, nm2, it2, dn2, ad2, cap2, l2⟩ := e
          simp only [Ex.cells, List.getElem?_cons_succ, List.getElem?_cons_zero, Option.some.injEq, Value.slice.injEq] at h5'
          exact h5'.2.1.symm
        refine .inr ⟨⟨(same _ _ (by omega)).trans h0, (same _ _ (by omega)).trans h1, (same _ _ (by omega)).trans h2, (same _ _ (by omega)).trans h3, (same _ _ (by omega)).trans h4⟩, a', c', by rw [here, hlen]; rfl, by simp, hc2, fun hne => absurd rfl hne⟩
      · refine .inr ⟨⟨(same _ _ (by omega)).trans h0, (same _ _ (by omega)).trans h1, (same _ _ (by omega)).trans h2, (same _ _ (by omega)).trans h3, (same _ _ (by omega)).trans h4⟩, a, c, (same _ _ (by omega)).trans h5, h6, h7, fun hne => ?_⟩
        obtain ⟨b', k1, k2, k3, k4⟩ := h8 hne
        exact ⟨b', k1, k2, exBlock_set k3, all b' 0 l rfl k4⟩
where all (b' : Nat) : ∀ (y : Nat) (l : List Ex), y % 6 = 0 → cps w B H b' y l → cps (w.setCell ⟨b, o + 5, none⟩ (.slice a' e.args.length c')) B H' b' y l
  | _, [], _, _ => trivial
  | y, e1 :: r, hy, h => ⟨cp_step ho hcell hlow hc1 hc2 hnew hH huniq e1 b' y hy h.1, all b' (y + 6) r (by omega) h.2⟩
/-- With nothing left to do it is a copy. -/
theorem cp_done {w : World} {B : Nat} : ∀ (e : Ex) (b o : Nat), e.cp w B (fun _ _ _ => False) b o → ∃ c : Ex, (∀ j, j < 6 → w.cell? ⟨b, o + j, none⟩ = c.cells[j]?) ∧ c.lies w ∧ c.like e ∧ c.inR B w.heap.size ∧ (e.good → c.good) ∧ c.skel w
  | .mk kd pl nm it dn ad cap l, b, o, h => by
    rcases h with h | ⟨⟨h0, h1, h2, h3, h4⟩, a, c, h5, h6, h7, h8⟩
    · exact h.elim
    · by_cases hne : l = []
      · subst hne
        refine ⟨.mk kd pl nm it dn a c [], fun j hj => ?_, ⟨0, 0, fun h => absurd rfl h, trivial⟩, ⟨⟨rfl, rfl, rfl, rfl, rfl⟩, trivial⟩, ⟨fun h => absurd rfl h, trivial⟩, fun hg => ⟨⟨hg.1.1, hg.1.2.1, hg.1.2.2.1, hg.1.2.2.2.1, hg.1.2.2.2.2.1, by simp, h7⟩, trivial⟩, fun h => absurd rfl h⟩
        match j, hj with
        | 0, _ => exact h0
        | 1, _ => exact h1
        | 2, _ => exact h2
        | 3, _ => exact h3
        | 4, _ => exact h4
        | 5, _ => exact h5
      · obtain ⟨b', k1, k2, k3, k4⟩ := h8 hne
        obtain ⟨l', m1, m2, m3, m4, m5, m6⟩ := all b' 0 l k4
        refine ⟨.mk kd pl nm it dn a c l', fun j hj => ?_, ⟨b', 0, fun _ => k1, m2⟩, ⟨⟨rfl, rfl, rfl, rfl, rfl⟩, m3⟩, ⟨fun _ => ⟨b', 0, k1, k2, exBlock_lt k3⟩, m4⟩, fun hg => ⟨⟨hg.1.1, hg.1.2.1, hg.1.2.2.1, hg.1.2.2.2.1, hg.1.2.2.2.2.1, by omega, h7⟩, m5 hg.2⟩, fun _ => ⟨b', k1, k3, m6⟩⟩
        match j, hj with
        | 0, _ => exact h0
        | 1, _ => exact h1
        | 2, _ => exact h2
        | 3, _ => exact h3
        | 4, _ => exact h4
        | 5, _ => rw [show o + 5 = o + 5 from rfl, h5, ← m1]; rfl
where all (b' : Nat) : ∀ (o : Nat) (l : List Ex), cps w B (fun _ _ _ => False) b' o l → ∃ l', l'.length = l.length ∧ lieAt w b' o l' ∧ likes l' l ∧ inRs B w.heap.size l' ∧ (goods l → goods l') ∧ skelAt w b' o l'
  | _, [], _ => ⟨[], rfl, trivial, trivial, trivial, fun _ => trivial, trivial⟩
  | o, e :: r, h => by
    obtain ⟨c, c1, c2, c3, c4, c5, c6⟩ := cp_done e b' o h.1
    obtain ⟨l', m1, m2, m3, m4, m5, m6⟩ := all b' (o + 6) r h.2
    refine ⟨c :: l', by simp [m1], ⟨c1, c2, m2⟩, ⟨c3, m3⟩, ⟨c4, m4⟩, fun hg => ⟨c5 hg.1, m5 hg.2⟩, ⟨⟨?_, fun j _ hj => c1 j hj⟩, c6, m6⟩⟩
    obtain ⟨kd, pl, nm, it, dn, a, cap, l⟩ := c
    exact ⟨kd, c1 0 (by omega)⟩
end Go.Proofs.YthbjagmlcemefaaDoor
/- A list that is made anew, element by element: the plain part. -/
namespace Go.Proofs.YthbjagmlcemefaaDoor
open Go.RowKit
/-- Cells written one behind the other. -/
def setRow (w : World) (g : Nat) : Nat → List Value → World
  | _, [] => w
  | o, v :: r => setRow (w.setCell ⟨g, o, none⟩ v) g (o + 1) r
def setList (xs : List Value) : Nat → List Value → List Value
  | _, [] => xs
  | o, v :: r => setList (xs.set o v) (o + 1) r
theorem setList_len (vs : List Value) : ∀ (xs : List Value) (o : Nat), (setList xs o vs).length = xs.length := by
  induction vs with
  | nil => intro xs o; rfl
  | cons v r ih => intro xs o; simp only [setList, ih, List.length_set]
theorem setList_out (vs : List Value) : ∀ (xs : List Value) (o i : Nat), (i < o ∨ o + vs.length ≤ i) → (setList xs o vs)[i]? = xs[i]? := by
  induction vs with
  | nil => intro xs o i _; rfl
  | cons v r ih =>
    intro xs o i h
    simp only [List.length_cons] at h
    simp only [setList]
    rw [ih _ _ _ (by omega), List.getElem?_set_ne (by omega)]
theorem setList_in (vs : List Value) : ∀ (xs : List Value) (o j : Nat), o + vs.length ≤ xs.length → j < vs.length → (setList xs o vs)[o + j]? = vs[j]? := by
  induction vs with
  | nil => intro xs o j _ h; simp at h
  | cons v r ih =>
    intro xs o j h hj
    simp only [List.length_cons] at h hj
    simp only [setList]
    cases j with
    | zero =>
      rw [setList_out _ _ _ _ (by omega), Nat.add_zero]
      simp only [List.getElem?_cons_zero]
      rw [List.getElem?_set_self (by omega)]
    | succ j =>
      rw [show o + (j + 1) = o + 1 + j by omega, ih _ _ _ (by simp; omega) (by omega)]
      rfl
theorem setRow_own (vs : List Value) {B e z g n cap : Nat} : ∀ (w : World) (xs : List Value) (o : Nat), w.ownsRow B e z (.slice (some ⟨g, 0, none⟩) n cap) n xs → (setRow w g o vs).ownsRow B e z (.slice (some ⟨g, 0, none⟩) n cap) n (setList xs o vs) := by
  induction vs with
  | nil => intro w xs o h; exact h
  | cons v r ih => intro w xs o h; exact ih _ _ _ (h.stored o v).1
theorem setRow_below (vs : List Value) {B g : Nat} {a : World} (hg : B ≤ g) : ∀ (w : World) (o : Nat), Below B a w → Below B a (setRow w g o vs) := by
  induction vs with
  | nil => intro w o h; exact h
  | cons v r ih => intro w o h; exact ih _ _ (h.setCell (p := ⟨g, o, none⟩) hg v)
theorem setRow_size (vs : List Value) {g : Nat} : ∀ (w : World) (o : Nat), (setRow w g o vs).heap.size = w.heap.size := by
  induction vs with
  | nil => intro w o; rfl
  | cons v r ih => intro w o; simp only [setRow, ih]; simp
theorem setRow_other (vs : List Value) {g x : Nat} : ∀ (w : World) (o : Nat), x ≠ g → (setRow w g o vs).heap[x]? = w.heap[x]? := by
  induction vs with
  | nil => intro w o _; rfl
  | cons v r ih => intro w o hx; simp only [setRow]; rw [ih _ _ hx]; exact Below.heap_setCell _ _ _ _ hx
theorem setRow_cell (vs : List Value) : ∀ (w : World) (g o j : Nat), j < vs.length → (∀ j, j < vs.length → ∃ v, w.cell? ⟨g, o + j, none⟩ = some v) → (setRow w g o vs).cell? ⟨g, o + j, none⟩ = vs[j]? := by
  induction vs with
  | nil => intro w g o j h _; simp at h
  | cons v r ih =>
    intro w g o j hj h
    simp only [setRow]
    have keep : ∀ (r : List Value) (W : World) (o k : Nat), k < o → (setRow W g o r).cell? ⟨g, k, none⟩ = W.cell? ⟨g, k, none⟩ := by
      intro r
      induction r with
      | nil => intro W o k _; rfl
      | cons u t ih2 =>
        intro W o k hk
        simp only [setRow]
        rw [ih2 _ _ _ (by omega)]
        exact World.cell?_setCell_other _ _ _ _ (by simp only [ne_eq, Addr.mk.injEq, true_and, and_true]; omega)
    cases j with
    | zero =>
      obtain ⟨u, hu⟩ := h 0 (by simp)
      have hu' : w.cell? ⟨g, o, none⟩ = some u := hu
      show (setRow (w.setCell ⟨g, o, none⟩ v) g (o + 1) r).cell? ⟨g, o, none⟩ = some v
      rw [keep _ _ _ _ (by omega)]
      exact World.cell?_setCell_same _ _ _ hu'
    | succ j =>
      have := ih (w.setCell ⟨g, o, none⟩ v) g (o + 1) j (by simpa using hj) (fun i hi => by
        obtain ⟨u, hu⟩ := h (i + 1) (by simpa using hi)
        exact ⟨u, by rw [World.cell?_setCell_other _ _ _ _ (by simp only [ne_eq, Addr.mk.injEq, true_and, and_true]; omega), show o + 1 + i = o + (i + 1) by omega]; exact hu⟩)
      rw [show o + (j + 1) = o + 1 + j by omega, this]
      rfl
theorem setRow_rel (vs : List Value) {g : Nat} {P : World → Prop} (hP : ∀ W j v, P W → g < W.heap.size → P (W.setCell ⟨g, j, none⟩ v)) : ∀ (w : World) (o : Nat), P w → g < w.heap.size → P (setRow w g o vs) := by
  induction vs with
  | nil => intro w o h _; exact h
  | cons v r ih => intro w o h hlt; exact ih _ _ (hP _ _ _ h hlt) (by simpa using hlt)
/-- So much of a list is made. -/
structure Copied {α : Type} (f : α → List Value) (z T : Nat) (w : World) (n : Nat) (R : Nat → List α → World → Prop) (k : Nat) (ys : List α) (wr : World) : Prop where
  len : ys.length = k
  below : Below w.heap.size w wr
  lt : w.heap.size < wr.heap.size
  own : ∃ xs, wr.ownsRow w.heap.size T z (.slice (some ⟨w.heap.size, 0, none⟩) n n) n xs ∧ ∀ i (h : i < ys.length) j, j < z → xs[i * z + j]? = (f ys[i])[j]?
  rel : R k ys wr
/-- One more is made, not yet laid there. -/
structure Copied' {α : Type} (f : α → List Value) (z T : Nat) (w : World) (n : Nat) (R : Nat → List α → World → Prop) (k : Nat) (ys : List α) (y : α) (wr : World) : Prop where
  len : ys.length = k
  below : Below w.heap.size w wr
  lt : w.heap.size < wr.heap.size
  own : ∃ xs, wr.ownsRow w.heap.size T z (.slice (some ⟨w.heap.size, 0, none⟩) n n) n xs ∧ ∀ i (h : i < ys.length) j, j < z → xs[i * z + j]? = (f ys[i])[j]?
  rel : R (k + 1) (ys ++ [y]) wr
/-- What copied leaves. -/
def MadeOf {α : Type} (f : α → List Value) (z T : Nat) (w : World) (n : Nat) (R : Nat → List α → World → Prop) (x : Ending) (w' : World) : Prop :=
  (n = 0 ∧ x = .returned (.slice none 0 0) ∧ w' = w) ∨ (∃ ys, x = .returned (.slice (some ⟨w.heap.size, 0, none⟩) n n) ∧ ys.length = n ∧ n ≤ maxLen ∧ rowAt f z w' w.heap.size 0 ys ∧ (∃ cur, w'.heap[w.heap.size]? = some (.cells cur T (0, 0))) ∧ R n ys w' ∧ Below w.heap.size w w')
theorem made_none {α : Type} {f : α → List Value} {z T : Nat} {w : World} {n : Nat} {R : Nat → List α → World → Prop} (h : n = 0) : MadeOf f z T w n R (.returned (.slice none 0 0)) w := .inl ⟨h, rfl, rfl⟩
theorem own_cell {w : World} {B e z g n cap j : Nat} {xs : List Value} (h : w.ownsRow B e z (.slice (some ⟨g, 0, none⟩) n cap) n xs) (hj : j < n * z) : ∃ v, w.cell? ⟨g, j, none⟩ = some v := by
  rw [h.cellAt j hj]
  exact ⟨_, List.getElem?_eq_getElem (by rw [h.1]; exact hj)⟩
theorem own_block {w : World} {B e z g n cap : Nat} {xs : List Value} (h : w.ownsRow B e z (.slice (some ⟨g, 0, none⟩) n cap) n xs) : ∃ cur, w.heap[g]? = some (.cells cur e (0, 0)) := by
  rcases h.2 with ⟨h', _⟩ | ⟨g', cap', cur, h', hb, hg, _⟩
  · cases h'
  · simp only [Value.slice.injEq, Option.some.injEq, Addr.mk.injEq, and_true, true_and] at h'
    rw [h'.1]
    exact ⟨cur, hg⟩
theorem copied_start {α : Type} {f : α → List Value} {z T : Nat} {w W : World} {n : Nat} {R : Nat → List α → World → Prop} {xs : List Value} (hown : W.ownsRow w.heap.size T z (.slice (some ⟨w.heap.size, 0, none⟩) n n) n xs) (hg : w.grownBy W none) (h0 : ∀ W, Below w.heap.size w W → w.heap.size < W.heap.size → R 0 [] W) : Copied f z T w n R 0 [] W := by
  have hb : Below w.heap.size w W := ⟨hg.os, hg.tape, hg.output, hg.size, fun k hk => hg.block k hk (by simp)⟩
  have hlt : w.heap.size < W.heap.size := by obtain ⟨cur, h⟩ := own_block hown; exact lt_of_block h
  exact ⟨rfl, hb, hlt, ⟨xs, hown, fun i h => by simp at h⟩, h0 W hb hlt⟩
theorem copied_lt {α : Type} {f : α → List Value} {z T : Nat} {w wr : World} {n k : Nat} {ys : List α} {R : Nat → List α → World → Prop} (h : Copied f z T w n R k ys wr) (_ : 0 < n) : w.heap.size < wr.heap.size := h.lt
theorem copied_call {α : Type} {f : α → List Value} {z T : Nat} {w w1 w2 : World} {n k : Nat} {ys : List α} {y : α} {R : Nat → List α → World → Prop} (h : Copied f z T w n R k ys w1) (hb : Below w1.heap.size w1 w2) (hr : R (k + 1) (ys ++ [y]) w2) : Copied' f z T w n R k ys y w2 := by
  obtain ⟨xs, h1, h2⟩ := h.own
  refine ⟨h.len, h.below.trans (hb.mono h.below.size), Nat.lt_of_lt_of_le h.lt hb.size, ⟨xs, ?_, h2⟩, hr⟩
  refine ⟨h1.1, ?_⟩
  rcases h1.2 with g | ⟨g, cap, cur, e1, e2, e3, r⟩
  · exact .inl g
  · exact .inr ⟨g, cap, cur, e1, e2, (hb.block g (lt_of_block e3)).trans e3, r⟩
theorem copied_store {α : Type} {f : α → List Value} {z T : Nat} {w w2 : World} {n k : Nat} {ys : List α} {y : α} {R : Nat → List α → World → Prop} (hz : ∀ x, (f x).length = z) (hk : k < n) (h : Copied' f z T w n R k ys y w2) (hset : ∀ k ys W j v, R k ys W → w.heap.size < W.heap.size → R k ys (W.setCell ⟨w.heap.size, j, none⟩ v)) : Copied f z T w n R (k + 1) (ys ++ [y]) (setRow w2 w.heap.size (k * z) (f y)) := by
  obtain ⟨xs, h1, h2⟩ := h.own
  have hl := h.len
  have hxl : xs.length = n * z := h1.1
  have hkz : k * z + z ≤ n * z := by rw [← Nat.succ_mul]; exact Nat.mul_le_mul_right z hk
  refine ⟨by simp [hl], setRow_below _ (Nat.le_refl _) _ _ h.below, by rw [setRow_size]; exact h.lt, ⟨_, setRow_own _ _ _ _ h1, fun i hi j hj => ?_⟩, setRow_rel (P := R (k + 1) (ys ++ [y])) _ (fun W j v => hset _ _ W j v) _ _ h.rel h.lt⟩
  by_cases hik : i < ys.length
  · have hiz : i * z + z ≤ k * z := by rw [← Nat.succ_mul]; exact Nat.mul_le_mul_right z (by omega)
    rw [setList_out _ _ _ _ (.inl (by omega)), List.getElem_append_left hik]
    exact h2 i hik j hj
  · simp only [List.length_append, List.length_cons, List.length_nil] at hi
    obtain rfl : i = k := by omega
    rw [setList_in _ _ _ _ (by rw [hz, hxl]; exact hkz) (by rw [hz]; exact hj), List.getElem_append_right (by omega)]
    simp [hl]
theorem made_some {α : Type} {f : α → List Value} {z T : Nat} {w wr : World} {n : Nat} {ys : List α} {R : Nat → List α → World → Prop} (hn : n ≤ maxLen) (h : Copied f z T w n R n ys wr) : MadeOf f z T w n R (.returned (.slice (some ⟨w.heap.size, 0, none⟩) n n)) wr := by
  obtain ⟨xs, h1, h2⟩ := h.own
  have hl := h.len
  refine .inr ⟨ys, rfl, hl, hn, fun i hi j hj => ?_, own_block h1, h.rel, h.below⟩
  have hiz : i * z + z ≤ n * z := by rw [← Nat.succ_mul]; exact Nat.mul_le_mul_right z (by omega)
  rw [Nat.zero_add, h1.cellAt _ (by omega)]
  exact h2 i hi j hj
end Go.Proofs.YthbjagmlcemefaaDoor
/- The program's copyPart, and copied at expressions, params, texts: what is made is the same again, in a block of its own. -/
namespace Go.Proofs.YthbjagmlcemefaaDoor
open Go.RowKit
open Ex.size Ex.depth Ex.lies Ex.bulk Ex.good
attribute [local go_sem] later_size later_cell later_frozen later_setCell later_drew later_drewN later_tape drewN_setCell drewN_alloc drewN_later later_later lt_more lt_more1 lt_more2 lt_more3 lt_more4 lk0_0_1 lk1_0_1 lk2_0_1 lk0_0_2 lk1_0_2 lk2_0_2 lk0_1_2 lk0_0_3 lk1_0_3 lk2_0_3 lk0_1_3 lk0_2_3 lk0_0_4 lk1_0_4 lk2_0_4 lk0_1_4 lk0_2_4 lk0_3_4 lk0_0_5 lk1_0_5 lk2_0_5 lk0_1_5 lk0_2_5 lk0_3_5 lk0_4_5 lk0_0_6 lk1_0_6 lk2_0_6 lk0_1_6 lk0_2_6 lk0_3_6 lk0_4_6 lk0_5_6 lk0_0_7 lk1_0_7 lk2_0_7 lk0_1_7 lk0_2_7 lk0_3_7 lk0_4_7 lk0_5_7 lk0_6_7
theorem bcell {W w1 : World} (hb : Below W.heap.size W w1) : (∀ b o, b < W.heap.size → w1.cell? ⟨b, o, none⟩ = W.cell? ⟨b, o, none⟩) ∧ (∀ b o, b < W.heap.size → w1.frozen? ⟨b, o, none⟩ = W.frozen? ⟨b, o, none⟩) :=
  ⟨fun b o h => hb.cell (p := ⟨b, o, none⟩) h, fun b o h => hb.frozen (p := ⟨b, o, none⟩) h⟩
set_option maxRecDepth 100000 in
set_option maxHeartbeats 3200000 in
theorem copyPart_calls (x : Ex) (hs : x.nm.size ≤ 1048576) (w : World) : Calls Tryd.prog 46 #[x.val] w fun r w' => r = .returned x.val ∧ Below w.heap.size w w' := by
  obtain ⟨kd, pl, nm, it, dn, a, cap, l⟩ := x
  have CC : Hid (∀ w', Calls Tryd.prog 52 #[.string nm] w' fun e w'' => e = .returned (.string nm) ∧ Below w'.heap.size w' w'') := fun w' => clone_calls nm w' hs
  clear hs
  simp only [Ex.val, Ex.cells, List.toArray]
  go_enter Tryd.func46, Tryd.ntmps46
  go_wp2_with fail
  refine (CC.out _).mono ?_
  rintro r w2 ⟨rfl, hb⟩
  have hz : w.heap.size + 1 < w2.heap.size := by have := hb.size; simp at this; omega
  have hz0 : w.heap.size < w2.heap.size := by omega
  have HB : Hid (Below w.heap.size w w2) := (((Below.refl _ _).alloc (Nat.le_refl _) _).alloc (by simp) _).trans (hb.mono (by simp; omega))
  obtain ⟨hc, hf⟩ := bcell hb
  have c0 := hc w.heap.size 0 (by simp; omega)
  have c1 := hc w.heap.size 1 (by simp; omega)
  have c2 := hc w.heap.size 2 (by simp; omega)
  have c3 := hc w.heap.size 3 (by simp; omega)
  have c4 := hc w.heap.size 4 (by simp; omega)
  have c5 := hc w.heap.size 5 (by simp; omega)
  have d0 := hc (w.heap.size + 1) 0 (by simp)
  have d1 := hc (w.heap.size + 1) 1 (by simp)
  have d2 := hc (w.heap.size + 1) 2 (by simp)
  have d3 := hc (w.heap.size + 1) 3 (by simp)
  have d4 := hc (w.heap.size + 1) 4 (by simp)
  have d5 := hc (w.heap.size + 1) 5 (by simp)
  have f0 : ∀ j, w2.frozen? ⟨w.heap.size, j, none⟩ = false := fun j => (hf w.heap.size j (by simp; omega)).trans (by simp)
  have f1 : ∀ j, w2.frozen? ⟨w.heap.size + 1, j, none⟩ = false := fun j => (hf (w.heap.size + 1) j (by simp)).trans (by simp)
  simp at c0 c1 c2 c3 c4 c5 d0 d1 d2 d3 d4 d5
  clear hc hf hb
  go_wp2_with fail
  refine bodyPost_ret (by simp [results, Tryd.results46, go_sem, *]; try rfl) rfl ⟨rfl, ?_⟩
  exact ((((((HB.out.setCell (p := ⟨w.heap.size, 2, none⟩) (Nat.le_refl _) _).setCell (p := ⟨w.heap.size + 1, 0, none⟩) (Nat.le_succ _) _).setCell (p := ⟨w.heap.size + 1, 1, none⟩) (Nat.le_succ _) _).setCell (p := ⟨w.heap.size + 1, 2, none⟩) (Nat.le_succ _) _).setCell (p := ⟨w.heap.size + 1, 3, none⟩) (Nat.le_succ _) _).setCell (p := ⟨w.heap.size + 1, 4, none⟩) (Nat.le_succ _) _).setCell (p := ⟨w.heap.size + 1, 5, none⟩) (Nat.le_succ _) _
end Go.Proofs.YthbjagmlcemefaaDoor
/- The program's copied: a list made anew of what one makes of each element, at one type (written by gen_copied.py). -/
namespace Go.Proofs.YthbjagmlcemefaaDoor
open Go.RowKit
open Ex.size Ex.depth Ex.lies Ex.bulk Ex.good
attribute [local go_sem] later_size later_cell later_frozen later_setCell later_drew later_drewN later_tape drewN_setCell drewN_alloc drewN_later later_later lt_more lt_more1 lt_more2 lt_more3 lt_more4 lk0_0_1 lk1_0_1 lk2_0_1 lk0_0_2 lk1_0_2 lk2_0_2 lk0_1_2 lk0_0_3 lk1_0_3 lk2_0_3 lk0_1_3 lk0_2_3 lk0_0_4 lk1_0_4 lk2_0_4 lk0_1_4 lk0_2_4 lk0_3_4 lk0_0_5 lk1_0_5 lk2_0_5 lk0_1_5 lk0_2_5 lk0_3_5 lk0_4_5 lk0_0_6 lk1_0_6 lk2_0_6 lk0_1_6 lk0_2_6 lk0_3_6 lk0_4_6 lk0_5_6 lk0_0_7 lk1_0_7 lk2_0_7 lk0_1_7 lk0_2_7 lk0_3_7 lk0_4_7 lk0_5_7 lk0_6_7
theorem Tryd.infoMadeExpr : (Tryd.prog.info? 33).map (fun i => (i.zero, i.size, i.bytes)) = some (some (.agg #[.int .u8 0, .int .i64 0, .string ⟨#[]⟩, .int .i64 0, .int .i64 0, .slice none 0 0]), 6, 72) := by kernel_rfl
set_option maxRecDepth 100000 in
set_option maxHeartbeats 6400000 in
theorem copiedExpr_calls (fn : Nat) (hent : ∀ args w, (callFunc fn args).run Tryd.prog w = .ok (.enter fn args) w) (l : List Ex) (a : Option Addr) (cap : Nat) (w : World) (R : Nat → List Ex → World → Prop)
    (hrow : rowIn Ex.cells 6 w a l) (hn : l.length ≤ 1048576) (h0 : ∀ W, Below w.heap.size w W → w.heap.size < W.heap.size → R 0 [] W)
    (hset : ∀ k ys W j v, R k ys W → w.heap.size < W.heap.size → R k ys (W.setCell ⟨w.heap.size, j, none⟩ v))
    (hstep : ∀ k (hk : k < l.length) ys W, ys.length = k → R k ys W → Below w.heap.size w W → w.heap.size < W.heap.size → Calls Tryd.prog fn #[l[k].val] W fun x W' => ∃ y, x = .returned y.val ∧ R (k + 1) (ys ++ [y]) W' ∧ Below W.heap.size W W') :
    Calls Tryd.prog 49 #[.slice a l.length cap, .func (.func fn) #[] #[]] w fun x w' => MadeOf Ex.cells 6 33 w l.length R x w' := by
  obtain ⟨i0, hi, hz0', hz1, hz2⟩ := info_parts Tryd.infoMadeExpr
  obtain ⟨n, hN⟩ : ∃ n, n = l.length := ⟨_, rfl⟩
  have HN : Hid (n = l.length) := hN
  have HI : Hid _ := hi
  have HZ0 : Hid _ := hz0'
  have HZ1 : Hid _ := hz1
  have HZ2 : Hid _ := hz2
  have HRow : Hid (rowIn Ex.cells 6 w a l) := hrow
  have H0 : Hid _ := h0
  have HSet : Hid _ := hset
  have HStep : Hid _ := hstep
  have HBy : Hid (i0.bytes * n ≤ 281474976710656) := by rw [Hid, hz2]; omega
  have HMx : Hid (n ≤ maxLen) := by unfold Hid maxLen; omega
  rw [← hN] at hn ⊢
  clear hN hrow h0 hset hstep hi hz0' hz1 hz2
  cases a with
  | none =>
    have hE : ∀ w, (binOp .eql 31 (.slice none n cap) (.slice none 0 0)).run Tryd.prog w = .ok (.bool true) w := fun w => Lib.run_eql_slice_nil w _ _ none n cap 0 0 Tryd.underlying31
    have hl0 : Hid (n = 0) := by
      rw [Hid, HN.out]
      refine Classical.byContradiction fun h => ?_
      obtain ⟨b, o, h1, -⟩ := HRow.out (fun e => h (by rw [e]; rfl))
      cases h1
    go_enter Tryd.func49, Tryd.ntmps49
    go_wp2_with fail
    go_ret
    exact made_none (by rw [hl0.out])
  | some ad =>
    have hE : ∀ w, (binOp .eql 31 (.slice (some ad) n cap) (.slice none 0 0)).run Tryd.prog w = .ok (.bool false) w := fun w => Lib.run_eql_slice_nil w _ _ (some ad) n cap 0 0 Tryd.underlying31
    go_enter Tryd.func49, Tryd.ntmps49
    go_wp2_with (at_make; refine wpList_make_full _ rfl (.tmp 10) (.tmp 10) 31 rfl w.heap.size 33 i0 (.agg #[.int .u8 0, .int .i64 0, .string ⟨#[]⟩, .int .i64 0, .int .i64 0, .slice none 0 0]) 6 Tryd.underlying31 HI.out HZ0.out HZ1.out _ _ _ _ n rfl rfl rfl rfl HBy.out HMx.out (Nat.le_refl _) ?_; intro W1 hown hgrow; have HOwn : Hid _ := hown; have HGr : Hid _ := hgrow; clear hown hgrow)
    go_loopw [14] (fun i wr => ∃ (k : Nat) (ys : List Ex), k ≤ n ∧ i = .int .i64 k ∧ Hid (Copied Ex.cells 6 33 w n R k ys wr)) (fun i _ => n - (intOf i).toNat)
    case atStart => exact ⟨0, [], by omega, rfl, copied_start HOwn.out HGr.out H0.out⟩
    case round =>
      obtain ⟨k, ys, hk, rfl, HC⟩ := hrel
      by_cases hlt : k < n
      · have hkl : k < l.length := by rw [← HN.out]; exact hlt
        obtain ⟨b, o, had, hbl, hrow⟩ := HRow.out (by intro h; rw [h] at hkl; simp at hkl)
        injection had with had
        subst had
        have hlt0 := copied_lt HC.out (by omega)
        have hcr : ∀ j, j < 6 → wr.cell? ⟨b, o + k * 6 + j, none⟩ = (Ex.cells l[k])[j]? := fun j hj => (HC.out.below.cell (p := ⟨b, o + k * 6 + j, none⟩) hbl).trans (hrow k hkl j hj)
        have CC := HStep.out k hkl ys wr HC.out.len HC.out.rel HC.out.below hlt0
        clear hrow
        generalize l[k] = y1 at *
        obtain ⟨kd1, pl1, nm1, it1, dn1, a1, cap1, l1⟩ := y1
        simp only [Ex.val, Ex.cells, List.toArray] at CC
        have c0 : wr.cell? ⟨b, o + k * 6, none⟩ = some (.int .u8 kd1) := hcr 0 (by omega)
        have c1 : wr.cell? ⟨b, o + k * 6 + 1, none⟩ = some (.int .i64 pl1) := hcr 1 (by omega)
        have c2 : wr.cell? ⟨b, o + k * 6 + 2, none⟩ = some (.string nm1) := hcr 2 (by omega)
        have c3 : wr.cell? ⟨b, o + k * 6 + 3, none⟩ = some (.int .i64 it1) := hcr 3 (by omega)
        have c4 : wr.cell? ⟨b, o + k * 6 + 4, none⟩ = some (.int .i64 dn1) := hcr 4 (by omega)
        have c5 : wr.cell? ⟨b, o + k * 6 + 5, none⟩ = some (.slice a1 l1.length cap1) := hcr 5 (by omega)
        clear hcr
        go_wp2_with fail
        refine CC.mono ?_
        rintro r w2 ⟨y, rfl, hr2, hb2⟩
        have HC2 : Hid (Copied' Ex.cells 6 33 w n R k ys y w2) := copied_call HC.out hb2 hr2
        clear CC hr2 hb2 c0 c1 c2 c3 c4 c5
        obtain ⟨xs, hOW, -⟩ := HC2.out.own
        have OW : Hid (w2.ownsRow w.heap.size 33 6 (.slice (some ⟨w.heap.size, 0, none⟩) n n) n xs) := hOW
        clear hOW
        have hlt2 : w.heap.size < w2.heap.size := HC2.out.lt
        obtain ⟨kd2, pl2, nm2, it2, dn2, a2, cap2, l2⟩ := y
        skip
        obtain ⟨q0, g0⟩ := own_cell OW.out (show k * 6 < n * 6 by omega)
        have p0 := World.ownsRow.frozenAt OW.out (k * 6)
        obtain ⟨q1, g1⟩ := own_cell OW.out (show k * 6 + 1 < n * 6 by omega)
        have p1 := World.ownsRow.frozenAt OW.out (k * 6 + 1)
        obtain ⟨q2, g2⟩ := own_cell OW.out (show k * 6 + 2 < n * 6 by omega)
        have p2 := World.ownsRow.frozenAt OW.out (k * 6 + 2)
        obtain ⟨q3, g3⟩ := own_cell OW.out (show k * 6 + 3 < n * 6 by omega)
        have p3 := World.ownsRow.frozenAt OW.out (k * 6 + 3)
        obtain ⟨q4, g4⟩ := own_cell OW.out (show k * 6 + 4 < n * 6 by omega)
        have p4 := World.ownsRow.frozenAt OW.out (k * 6 + 4)
        obtain ⟨q5, g5⟩ := own_cell OW.out (show k * 6 + 5 < n * 6 by omega)
        have p5 := World.ownsRow.frozenAt OW.out (k * 6 + 5)
        go_wp2_with fail
        go_roundw
        case rel =>
          have hs := copied_store (f := Ex.cells) (fun x => by cases x; rfl) hlt HC2.out HSet.out
          simp only [setRow, Ex.cells, Nat.add_assoc, Nat.reduceAdd] at hs
          exact ⟨k + 1, _, by omega, by go_num, hs⟩
        case measure => simp [intOf]; omega
      · obtain rfl : k = n := by omega
        go_wp2_with fail
        go_ret
        exact made_some HMx.out HC.out
end Go.Proofs.YthbjagmlcemefaaDoor
/- The program's copied: a list made anew of what one makes of each element, at one type (written by gen_copied.py). -/
namespace Go.Proofs.YthbjagmlcemefaaDoor
open Go.RowKit
open Ex.size Ex.depth Ex.lies Ex.bulk Ex.good
attribute [local go_sem] later_size later_cell later_frozen later_setCell later_drew later_drewN later_tape drewN_setCell drewN_alloc drewN_later later_later lt_more lt_more1 lt_more2 lt_more3 lt_more4 lk0_0_1 lk1_0_1 lk2_0_1 lk0_0_2 lk1_0_2 lk2_0_2 lk0_1_2 lk0_0_3 lk1_0_3 lk2_0_3 lk0_1_3 lk0_2_3 lk0_0_4 lk1_0_4 lk2_0_4 lk0_1_4 lk0_2_4 lk0_3_4 lk0_0_5 lk1_0_5 lk2_0_5 lk0_1_5 lk0_2_5 lk0_3_5 lk0_4_5 lk0_0_6 lk1_0_6 lk2_0_6 lk0_1_6 lk0_2_6 lk0_3_6 lk0_4_6 lk0_5_6 lk0_0_7 lk1_0_7 lk2_0_7 lk0_1_7 lk0_2_7 lk0_3_7 lk0_4_7 lk0_5_7 lk0_6_7
theorem Tryd.infoMadeParam : (Tryd.prog.info? 94).map (fun i => (i.zero, i.size, i.bytes)) = some (some (.agg #[.string ⟨#[]⟩, .int .u8 0, .int .i64 0, .bool false, .int .i64 0, .int .i64 0, .int .i64 0]), 7, 64) := by kernel_rfl
set_option maxRecDepth 100000 in
set_option maxHeartbeats 6400000 in
theorem copiedParam_calls (fn : Nat) (hent : ∀ args w, (callFunc fn args).run Tryd.prog w = .ok (.enter fn args) w) (l : List Pm) (a : Option Addr) (cap : Nat) (w : World) (R : Nat → List Pm → World → Prop)
    (hrow : rowIn Pm.cells 7 w a l) (hn : l.length ≤ 1048576) (h0 : ∀ W, Below w.heap.size w W → w.heap.size < W.heap.size → R 0 [] W)
    (hset : ∀ k ys W j v, R k ys W → w.heap.size < W.heap.size → R k ys (W.setCell ⟨w.heap.size, j, none⟩ v))
    (hstep : ∀ k (hk : k < l.length) ys W, ys.length = k → R k ys W → Below w.heap.size w W → w.heap.size < W.heap.size → Calls Tryd.prog fn #[l[k].val] W fun x W' => ∃ y, x = .returned y.val ∧ R (k + 1) (ys ++ [y]) W' ∧ Below W.heap.size W W') :
    Calls Tryd.prog 70 #[.slice a l.length cap, .func (.func fn) #[] #[]] w fun x w' => MadeOf Pm.cells 7 94 w l.length R x w' := by
  obtain ⟨i0, hi, hz0', hz1, hz2⟩ := info_parts Tryd.infoMadeParam
  obtain ⟨n, hN⟩ : ∃ n, n = l.length := ⟨_, rfl⟩
  have HN : Hid (n = l.length) := hN
  have HI : Hid _ := hi
  have HZ0 : Hid _ := hz0'
  have HZ1 : Hid _ := hz1
  have HZ2 : Hid _ := hz2
  have HRow : Hid (rowIn Pm.cells 7 w a l) := hrow
  have H0 : Hid _ := h0
  have HSet : Hid _ := hset
  have HStep : Hid _ := hstep
  have HBy : Hid (i0.bytes * n ≤ 281474976710656) := by rw [Hid, hz2]; omega
  have HMx : Hid (n ≤ maxLen) := by unfold Hid maxLen; omega
  rw [← hN] at hn ⊢
  clear hN hrow h0 hset hstep hi hz0' hz1 hz2
  cases a with
  | none =>
    have hE : ∀ w, (binOp .eql 26 (.slice none n cap) (.slice none 0 0)).run Tryd.prog w = .ok (.bool true) w := fun w => Lib.run_eql_slice_nil w _ _ none n cap 0 0 Tryd.underlying26
    have hl0 : Hid (n = 0) := by
      rw [Hid, HN.out]
      refine Classical.byContradiction fun h => ?_
      obtain ⟨b, o, h1, -⟩ := HRow.out (fun e => h (by rw [e]; rfl))
      cases h1
    go_enter Tryd.func70, Tryd.ntmps70
    go_wp2_with fail
    go_ret
    exact made_none (by rw [hl0.out])
  | some ad =>
    have hE : ∀ w, (binOp .eql 26 (.slice (some ad) n cap) (.slice none 0 0)).run Tryd.prog w = .ok (.bool false) w := fun w => Lib.run_eql_slice_nil w _ _ (some ad) n cap 0 0 Tryd.underlying26
    go_enter Tryd.func70, Tryd.ntmps70
    go_wp2_with (at_make; refine wpList_make_full _ rfl (.tmp 10) (.tmp 10) 26 rfl w.heap.size 94 i0 (.agg #[.string ⟨#[]⟩, .int .u8 0, .int .i64 0, .bool false, .int .i64 0, .int .i64 0, .int .i64 0]) 7 Tryd.underlying26 HI.out HZ0.out HZ1.out _ _ _ _ n rfl rfl rfl rfl HBy.out HMx.out (Nat.le_refl _) ?_; intro W1 hown hgrow; have HOwn : Hid _ := hown; have HGr : Hid _ := hgrow; clear hown hgrow)
    go_loopw [14] (fun i wr => ∃ (k : Nat) (ys : List Pm), k ≤ n ∧ i = .int .i64 k ∧ Hid (Copied Pm.cells 7 94 w n R k ys wr)) (fun i _ => n - (intOf i).toNat)
    case atStart => exact ⟨0, [], by omega, rfl, copied_start HOwn.out HGr.out H0.out⟩
    case round =>
      obtain ⟨k, ys, hk, rfl, HC⟩ := hrel
      by_cases hlt : k < n
      · have hkl : k < l.length := by rw [← HN.out]; exact hlt
        obtain ⟨b, o, had, hbl, hrow⟩ := HRow.out (by intro h; rw [h] at hkl; simp at hkl)
        injection had with had
        subst had
        have hlt0 := copied_lt HC.out (by omega)
        have hcr : ∀ j, j < 7 → wr.cell? ⟨b, o + k * 7 + j, none⟩ = (Pm.cells l[k])[j]? := fun j hj => (HC.out.below.cell (p := ⟨b, o + k * 7 + j, none⟩) hbl).trans (hrow k hkl j hj)
        have CC := HStep.out k hkl ys wr HC.out.len HC.out.rel HC.out.below hlt0
        clear hrow
        generalize l[k] = y1 at *
        obtain ⟨nm1, ty1, pl1, rt1, pd1, st1, du1⟩ := y1
        simp only [Pm.val, Pm.cells, List.toArray] at CC
        have c0 : wr.cell? ⟨b, o + k * 7, none⟩ = some (.string nm1) := hcr 0 (by omega)
        have c1 : wr.cell? ⟨b, o + k * 7 + 1, none⟩ = some (.int .u8 ty1) := hcr 1 (by omega)
        have c2 : wr.cell? ⟨b, o + k * 7 + 2, none⟩ = some (.int .i64 pl1) := hcr 2 (by omega)
        have c3 : wr.cell? ⟨b, o + k * 7 + 3, none⟩ = some (.bool rt1) := hcr 3 (by omega)
        have c4 : wr.cell? ⟨b, o + k * 7 + 4, none⟩ = some (.int .i64 pd1) := hcr 4 (by omega)
        have c5 : wr.cell? ⟨b, o + k * 7 + 5, none⟩ = some (.int .i64 st1) := hcr 5 (by omega)
        have c6 : wr.cell? ⟨b, o + k * 7 + 6, none⟩ = some (.int .i64 du1) := hcr 6 (by omega)
        clear hcr
        go_wp2_with fail
        refine CC.mono ?_
        rintro r w2 ⟨y, rfl, hr2, hb2⟩
        have HC2 : Hid (Copied' Pm.cells 7 94 w n R k ys y w2) := copied_call HC.out hb2 hr2
        clear CC hr2 hb2 c0 c1 c2 c3 c4 c5 c6
        obtain ⟨xs, hOW, -⟩ := HC2.out.own
        have OW : Hid (w2.ownsRow w.heap.size 94 7 (.slice (some ⟨w.heap.size, 0, none⟩) n n) n xs) := hOW
        clear hOW
        have hlt2 : w.heap.size < w2.heap.size := HC2.out.lt
        obtain ⟨nm2, ty2, pl2, rt2, pd2, st2, du2⟩ := y
        skip
        obtain ⟨q0, g0⟩ := own_cell OW.out (show k * 7 < n * 7 by omega)
        have p0 := World.ownsRow.frozenAt OW.out (k * 7)
        obtain ⟨q1, g1⟩ := own_cell OW.out (show k * 7 + 1 < n * 7 by omega)
        have p1 := World.ownsRow.frozenAt OW.out (k * 7 + 1)
        obtain ⟨q2, g2⟩ := own_cell OW.out (show k * 7 + 2 < n * 7 by omega)
        have p2 := World.ownsRow.frozenAt OW.out (k * 7 + 2)
        obtain ⟨q3, g3⟩ := own_cell OW.out (show k * 7 + 3 < n * 7 by omega)
        have p3 := World.ownsRow.frozenAt OW.out (k * 7 + 3)
        obtain ⟨q4, g4⟩ := own_cell OW.out (show k * 7 + 4 < n * 7 by omega)
        have p4 := World.ownsRow.frozenAt OW.out (k * 7 + 4)
        obtain ⟨q5, g5⟩ := own_cell OW.out (show k * 7 + 5 < n * 7 by omega)
        have p5 := World.ownsRow.frozenAt OW.out (k * 7 + 5)
        obtain ⟨q6, g6⟩ := own_cell OW.out (show k * 7 + 6 < n * 7 by omega)
        have p6 := World.ownsRow.frozenAt OW.out (k * 7 + 6)
        go_wp2_with fail
        go_roundw
        case rel =>
          have hs := copied_store (f := Pm.cells) (fun x => rfl) hlt HC2.out HSet.out
          simp only [setRow, Pm.cells, Nat.add_assoc, Nat.reduceAdd] at hs
          exact ⟨k + 1, _, by omega, by go_num, hs⟩
        case measure => simp [intOf]; omega
      · obtain rfl : k = n := by omega
        go_wp2_with fail
        go_ret
        exact made_some HMx.out HC.out
end Go.Proofs.YthbjagmlcemefaaDoor
/- The program's copied: a list made anew of what one makes of each element, at one type (written by gen_copied.py). -/
namespace Go.Proofs.YthbjagmlcemefaaDoor
open Go.RowKit
open Ex.size Ex.depth Ex.lies Ex.bulk Ex.good
attribute [local go_sem] later_size later_cell later_frozen later_setCell later_drew later_drewN later_tape drewN_setCell drewN_alloc drewN_later later_later lt_more lt_more1 lt_more2 lt_more3 lt_more4 lk0_0_1 lk1_0_1 lk2_0_1 lk0_0_2 lk1_0_2 lk2_0_2 lk0_1_2 lk0_0_3 lk1_0_3 lk2_0_3 lk0_1_3 lk0_2_3 lk0_0_4 lk1_0_4 lk2_0_4 lk0_1_4 lk0_2_4 lk0_3_4 lk0_0_5 lk1_0_5 lk2_0_5 lk0_1_5 lk0_2_5 lk0_3_5 lk0_4_5 lk0_0_6 lk1_0_6 lk2_0_6 lk0_1_6 lk0_2_6 lk0_3_6 lk0_4_6 lk0_5_6 lk0_0_7 lk1_0_7 lk2_0_7 lk0_1_7 lk0_2_7 lk0_3_7 lk0_4_7 lk0_5_7 lk0_6_7
theorem Tryd.infoMadeEq : (Tryd.prog.info? 36).map (fun i => (i.zero, i.size, i.bytes)) = some (some (.agg #[.slice none 0 0, .int .i64 0, .int .u8 0, .int .i64 0, .string ⟨#[]⟩, .int .i64 0, .int .i64 0, .slice none 0 0]), 8, 104) := by kernel_rfl
set_option maxRecDepth 100000 in
set_option maxHeartbeats 6400000 in
theorem copiedEq_calls (fn : Nat) (hent : ∀ args w, (callFunc fn args).run Tryd.prog w = .ok (.enter fn args) w) (l : List Eqn) (a : Option Addr) (cap : Nat) (w : World) (R : Nat → List Eqn → World → Prop)
    (hrow : rowIn Eqn.cells 8 w a l) (hn : l.length ≤ 1048576) (h0 : ∀ W, Below w.heap.size w W → w.heap.size < W.heap.size → R 0 [] W)
    (hset : ∀ k ys W j v, R k ys W → w.heap.size < W.heap.size → R k ys (W.setCell ⟨w.heap.size, j, none⟩ v))
    (hstep : ∀ k (hk : k < l.length) ys W, ys.length = k → R k ys W → Below w.heap.size w W → w.heap.size < W.heap.size → Calls Tryd.prog fn #[l[k].val] W fun x W' => ∃ y, x = .returned y.val ∧ R (k + 1) (ys ++ [y]) W' ∧ Below W.heap.size W W') :
    Calls Tryd.prog 72 #[.slice a l.length cap, .func (.func fn) #[] #[]] w fun x w' => MadeOf Eqn.cells 8 36 w l.length R x w' := by
  obtain ⟨i0, hi, hz0', hz1, hz2⟩ := info_parts Tryd.infoMadeEq
  obtain ⟨n, hN⟩ : ∃ n, n = l.length := ⟨_, rfl⟩
  have HN : Hid (n = l.length) := hN
  have HI : Hid _ := hi
  have HZ0 : Hid _ := hz0'
  have HZ1 : Hid _ := hz1
  have HZ2 : Hid _ := hz2
  have HRow : Hid (rowIn Eqn.cells 8 w a l) := hrow
  have H0 : Hid _ := h0
  have HSet : Hid _ := hset
  have HStep : Hid _ := hstep
  have HBy : Hid (i0.bytes * n ≤ 281474976710656) := by rw [Hid, hz2]; omega
  have HMx : Hid (n ≤ maxLen) := by unfold Hid maxLen; omega
  rw [← hN] at hn ⊢
  clear hN hrow h0 hset hstep hi hz0' hz1 hz2
  cases a with
  | none =>
    have hE : ∀ w, (binOp .eql 27 (.slice none n cap) (.slice none 0 0)).run Tryd.prog w = .ok (.bool true) w := fun w => Lib.run_eql_slice_nil w _ _ none n cap 0 0 Tryd.underlying27
    have hl0 : Hid (n = 0) := by
      rw [Hid, HN.out]
      refine Classical.byContradiction fun h => ?_
      obtain ⟨b, o, h1, -⟩ := HRow.out (fun e => h (by rw [e]; rfl))
      cases h1
    go_enter Tryd.func72, Tryd.ntmps72
    go_wp2_with fail
    go_ret
    exact made_none (by rw [hl0.out])
  | some ad =>
    have hE : ∀ w, (binOp .eql 27 (.slice (some ad) n cap) (.slice none 0 0)).run Tryd.prog w = .ok (.bool false) w := fun w => Lib.run_eql_slice_nil w _ _ (some ad) n cap 0 0 Tryd.underlying27
    go_enter Tryd.func72, Tryd.ntmps72
    go_wp2_with (at_make; refine wpList_make_full _ rfl (.tmp 10) (.tmp 10) 27 rfl w.heap.size 36 i0 (.agg #[.slice none 0 0, .int .i64 0, .int .u8 0, .int .i64 0, .string ⟨#[]⟩, .int .i64 0, .int .i64 0, .slice none 0 0]) 8 Tryd.underlying27 HI.out HZ0.out HZ1.out _ _ _ _ n rfl rfl rfl rfl HBy.out HMx.out (Nat.le_refl _) ?_; intro W1 hown hgrow; have HOwn : Hid _ := hown; have HGr : Hid _ := hgrow; clear hown hgrow)
    go_loopw [14] (fun i wr => ∃ (k : Nat) (ys : List Eqn), k ≤ n ∧ i = .int .i64 k ∧ Hid (Copied Eqn.cells 8 36 w n R k ys wr)) (fun i _ => n - (intOf i).toNat)
    case atStart => exact ⟨0, [], by omega, rfl, copied_start HOwn.out HGr.out H0.out⟩
    case round =>
      obtain ⟨k, ys, hk, rfl, HC⟩ := hrel
      by_cases hlt : k < n
      · have hkl : k < l.length := by rw [← HN.out]; exact hlt
        obtain ⟨b, o, had, hbl, hrow⟩ := HRow.out (by intro h; rw [h] at hkl; simp at hkl)
        injection had with had
        subst had
        have hlt0 := copied_lt HC.out (by omega)
        have hcr : ∀ j, j < 8 → wr.cell? ⟨b, o + k * 8 + j, none⟩ = (Eqn.cells l[k])[j]? := fun j hj => (HC.out.below.cell (p := ⟨b, o + k * 8 + j, none⟩) hbl).trans (hrow k hkl j hj)
        have CC := HStep.out k hkl ys wr HC.out.len HC.out.rel HC.out.below hlt0
        clear hrow
        generalize l[k] = y1 at *
        obtain ⟨na1, nc1, ns1, pq1, ⟨kd1, pl1, nm1, it1, dn1, a1, cap1, l1⟩⟩ := y1
        simp only [Eqn.val, Eqn.cells, Ex.cells, List.toArray] at CC
        have c0 : wr.cell? ⟨b, o + k * 8, none⟩ = some (.slice na1 ns1.length nc1) := hcr 0 (by omega)
        have c1 : wr.cell? ⟨b, o + k * 8 + 1, none⟩ = some (.int .i64 pq1) := hcr 1 (by omega)
        have c2 : wr.cell? ⟨b, o + k * 8 + 2, none⟩ = some (.int .u8 kd1) := hcr 2 (by omega)
        have c3 : wr.cell? ⟨b, o + k * 8 + 3, none⟩ = some (.int .i64 pl1) := hcr 3 (by omega)
        have c4 : wr.cell? ⟨b, o + k * 8 + 4, none⟩ = some (.string nm1) := hcr 4 (by omega)
        have c5 : wr.cell? ⟨b, o + k * 8 + 5, none⟩ = some (.int .i64 it1) := hcr 5 (by omega)
        have c6 : wr.cell? ⟨b, o + k * 8 + 6, none⟩ = some (.int .i64 dn1) := hcr 6 (by omega)
        have c7 : wr.cell? ⟨b, o + k * 8 + 7, none⟩ = some (.slice a1 l1.length cap1) := hcr 7 (by omega)
        clear hcr
        go_wp2_with fail
        refine CC.mono ?_
        rintro r w2 ⟨y, rfl, hr2, hb2⟩
        have HC2 : Hid (Copied' Eqn.cells 8 36 w n R k ys y w2) := copied_call HC.out hb2 hr2
        clear CC hr2 hb2 c0 c1 c2 c3 c4 c5 c6 c7
        obtain ⟨xs, hOW, -⟩ := HC2.out.own
        have OW : Hid (w2.ownsRow w.heap.size 36 8 (.slice (some ⟨w.heap.size, 0, none⟩) n n) n xs) := hOW
        clear hOW
        have hlt2 : w.heap.size < w2.heap.size := HC2.out.lt
        obtain ⟨na2, nc2, ns2, pq2, ⟨kd2, pl2, nm2, it2, dn2, a2, cap2, l2⟩⟩ := y
        skip
        obtain ⟨q0, g0⟩ := own_cell OW.out (show k * 8 < n * 8 by omega)
        have p0 := World.ownsRow.frozenAt OW.out (k * 8)
        obtain ⟨q1, g1⟩ := own_cell OW.out (show k * 8 + 1 < n * 8 by omega)
        have p1 := World.ownsRow.frozenAt OW.out (k * 8 + 1)
        obtain ⟨q2, g2⟩ := own_cell OW.out (show k * 8 + 2 < n * 8 by omega)
        have p2 := World.ownsRow.frozenAt OW.out (k * 8 + 2)
        obtain ⟨q3, g3⟩ := own_cell OW.out (show k * 8 + 3 < n * 8 by omega)
        have p3 := World.ownsRow.frozenAt OW.out (k * 8 + 3)
        obtain ⟨q4, g4⟩ := own_cell OW.out (show k * 8 + 4 < n * 8 by omega)
        have p4 := World.ownsRow.frozenAt OW.out (k * 8 + 4)
        obtain ⟨q5, g5⟩ := own_cell OW.out (show k * 8 + 5 < n * 8 by omega)
        have p5 := World.ownsRow.frozenAt OW.out (k * 8 + 5)
        obtain ⟨q6, g6⟩ := own_cell OW.out (show k * 8 + 6 < n * 8 by omega)
        have p6 := World.ownsRow.frozenAt OW.out (k * 8 + 6)
        obtain ⟨q7, g7⟩ := own_cell OW.out (show k * 8 + 7 < n * 8 by omega)
        have p7 := World.ownsRow.frozenAt OW.out (k * 8 + 7)
        go_wp2_with fail
        go_roundw
        case rel =>
          have hs := copied_store (f := Eqn.cells) (fun x => by obtain ⟨na, nc, ns, pq, ⟨kd, pl, nm, it, dn, a, cap, l⟩⟩ := x; rfl) hlt HC2.out HSet.out
          simp only [setRow, Eqn.cells, Ex.cells, Nat.add_assoc, Nat.reduceAdd] at hs
          exact ⟨k + 1, _, by omega, by go_num, hs⟩
        case measure => simp [intOf]; omega
      · obtain rfl : k = n := by omega
        go_wp2_with fail
        go_ret
        exact made_some HMx.out HC.out
end Go.Proofs.YthbjagmlcemefaaDoor
/- The program's copied: a list made anew of what one makes of each element, at one type (written by gen_copied.py). -/
namespace Go.Proofs.YthbjagmlcemefaaDoor
open Go.RowKit
open Ex.size Ex.depth Ex.lies Ex.bulk Ex.good
attribute [local go_sem] later_size later_cell later_frozen later_setCell later_drew later_drewN later_tape drewN_setCell drewN_alloc drewN_later later_later lt_more lt_more1 lt_more2 lt_more3 lt_more4 lk0_0_1 lk1_0_1 lk2_0_1 lk0_0_2 lk1_0_2 lk2_0_2 lk0_1_2 lk0_0_3 lk1_0_3 lk2_0_3 lk0_1_3 lk0_2_3 lk0_0_4 lk1_0_4 lk2_0_4 lk0_1_4 lk0_2_4 lk0_3_4 lk0_0_5 lk1_0_5 lk2_0_5 lk0_1_5 lk0_2_5 lk0_3_5 lk0_4_5 lk0_0_6 lk1_0_6 lk2_0_6 lk0_1_6 lk0_2_6 lk0_3_6 lk0_4_6 lk0_5_6 lk0_0_7 lk1_0_7 lk2_0_7 lk0_1_7 lk0_2_7 lk0_3_7 lk0_4_7 lk0_5_7 lk0_6_7
theorem Tryd.infoMadeNode : (Tryd.prog.info? 29).map (fun i => (i.zero, i.size, i.bytes)) = some (some (.agg #[.bool false, .string ⟨#[]⟩, .int .i64 0, .slice none 0 0, .slice none 0 0, .slice none 0 0, .slice none 0 0]), 7, 128) := by kernel_rfl
set_option maxRecDepth 100000 in
set_option maxHeartbeats 6400000 in
theorem copiedNode_calls (fn : Nat) (hent : ∀ args w, (callFunc fn args).run Tryd.prog w = .ok (.enter fn args) w) (l : List Nd) (a : Option Addr) (cap : Nat) (w : World) (R : Nat → List Nd → World → Prop)
    (hrow : rowIn Nd.cells 7 w a l) (hn : l.length ≤ 1048576) (h0 : ∀ W, Below w.heap.size w W → w.heap.size < W.heap.size → R 0 [] W)
    (hset : ∀ k ys W j v, R k ys W → w.heap.size < W.heap.size → R k ys (W.setCell ⟨w.heap.size, j, none⟩ v))
    (hstep : ∀ k (hk : k < l.length) ys W, ys.length = k → R k ys W → Below w.heap.size w W → w.heap.size < W.heap.size → Calls Tryd.prog fn #[l[k].val] W fun x W' => ∃ y, x = .returned y.val ∧ R (k + 1) (ys ++ [y]) W' ∧ Below W.heap.size W W') :
    Calls Tryd.prog 44 #[.slice a l.length cap, .func (.func fn) #[] #[]] w fun x w' => MadeOf Nd.cells 7 29 w l.length R x w' := by
  obtain ⟨i0, hi, hz0', hz1, hz2⟩ := info_parts Tryd.infoMadeNode
  obtain ⟨n, hN⟩ : ∃ n, n = l.length := ⟨_, rfl⟩
  have HN : Hid (n = l.length) := hN
  have HI : Hid _ := hi
  have HZ0 : Hid _ := hz0'
  have HZ1 : Hid _ := hz1
  have HZ2 : Hid _ := hz2
  have HRow : Hid (rowIn Nd.cells 7 w a l) := hrow
  have H0 : Hid _ := h0
  have HSet : Hid _ := hset
  have HStep : Hid _ := hstep
  have HBy : Hid (i0.bytes * n ≤ 281474976710656) := by rw [Hid, hz2]; omega
  have HMx : Hid (n ≤ maxLen) := by unfold Hid maxLen; omega
  rw [← hN] at hn ⊢
  clear hN hrow h0 hset hstep hi hz0' hz1 hz2
  cases a with
  | none =>
    have hE : ∀ w, (binOp .eql 23 (.slice none n cap) (.slice none 0 0)).run Tryd.prog w = .ok (.bool true) w := fun w => Lib.run_eql_slice_nil w _ _ none n cap 0 0 Tryd.underlying23
    have hl0 : Hid (n = 0) := by
      rw [Hid, HN.out]
      refine Classical.byContradiction fun h => ?_
      obtain ⟨b, o, h1, -⟩ := HRow.out (fun e => h (by rw [e]; rfl))
      cases h1
    go_enter Tryd.func44, Tryd.ntmps44
    go_wp2_with fail
    go_ret
    exact made_none (by rw [hl0.out])
  | some ad =>
    have hE : ∀ w, (binOp .eql 23 (.slice (some ad) n cap) (.slice none 0 0)).run Tryd.prog w = .ok (.bool false) w := fun w => Lib.run_eql_slice_nil w _ _ (some ad) n cap 0 0 Tryd.underlying23
    go_enter Tryd.func44, Tryd.ntmps44
    go_wp2_with (at_make; refine wpList_make_full _ rfl (.tmp 10) (.tmp 10) 23 rfl w.heap.size 29 i0 (.agg #[.bool false, .string ⟨#[]⟩, .int .i64 0, .slice none 0 0, .slice none 0 0, .slice none 0 0, .slice none 0 0]) 7 Tryd.underlying23 HI.out HZ0.out HZ1.out _ _ _ _ n rfl rfl rfl rfl HBy.out HMx.out (Nat.le_refl _) ?_; intro W1 hown hgrow; have HOwn : Hid _ := hown; have HGr : Hid _ := hgrow; clear hown hgrow)
    go_loopw [14] (fun i wr => ∃ (k : Nat) (ys : List Nd), k ≤ n ∧ i = .int .i64 k ∧ Hid (Copied Nd.cells 7 29 w n R k ys wr)) (fun i _ => n - (intOf i).toNat)
    case atStart => exact ⟨0, [], by omega, rfl, copied_start HOwn.out HGr.out H0.out⟩
    case round =>
      obtain ⟨k, ys, hk, rfl, HC⟩ := hrel
      by_cases hlt : k < n
      · have hkl : k < l.length := by rw [← HN.out]; exact hlt
        obtain ⟨b, o, had, hbl, hrow⟩ := HRow.out (by intro h; rw [h] at hkl; simp at hkl)
        injection had with had
        subst had
        have hlt0 := copied_lt HC.out (by omega)
        have hcr : ∀ j, j < 7 → wr.cell? ⟨b, o + k * 7 + j, none⟩ = (Nd.cells l[k])[j]? := fun j hj => (HC.out.below.cell (p := ⟨b, o + k * 7 + j, none⟩) hbl).trans (hrow k hkl j hj)
        have CC := HStep.out k hkl ys wr HC.out.len HC.out.rel HC.out.below hlt0
        clear hrow
        generalize l[k] = y1 at *
        obtain ⟨fl1, nm1, pl1, ia1, ic1, ins1, oa1, oc1, outs1, va1, vc1, vars1, qa1, qc1, eqs1⟩ := y1
        simp only [Nd.val, Nd.cells, List.toArray] at CC
        have c0 : wr.cell? ⟨b, o + k * 7, none⟩ = some (.bool fl1) := hcr 0 (by omega)
        have c1 : wr.cell? ⟨b, o + k * 7 + 1, none⟩ = some (.string nm1) := hcr 1 (by omega)
        have c2 : wr.cell? ⟨b, o + k * 7 + 2, none⟩ = some (.int .i64 pl1) := hcr 2 (by omega)
        have c3 : wr.cell? ⟨b, o + k * 7 + 3, none⟩ = some (.slice ia1 ins1.length ic1) := hcr 3 (by omega)
        have c4 : wr.cell? ⟨b, o + k * 7 + 4, none⟩ = some (.slice oa1 outs1.length oc1) := hcr 4 (by omega)
        have c5 : wr.cell? ⟨b, o + k * 7 + 5, none⟩ = some (.slice va1 vars1.length vc1) := hcr 5 (by omega)
        have c6 : wr.cell? ⟨b, o + k * 7 + 6, none⟩ = some (.slice qa1 eqs1.length qc1) := hcr 6 (by omega)
        clear hcr
        go_wp2_with fail
        refine CC.mono ?_
        rintro r w2 ⟨y, rfl, hr2, hb2⟩
        have HC2 : Hid (Copied' Nd.cells 7 29 w n R k ys y w2) := copied_call HC.out hb2 hr2
        clear CC hr2 hb2 c0 c1 c2 c3 c4 c5 c6
        obtain ⟨xs, hOW, -⟩ := HC2.out.own
        have OW : Hid (w2.ownsRow w.heap.size 29 7 (.slice (some ⟨w.heap.size, 0, none⟩) n n) n xs) := hOW
        clear hOW
        have hlt2 : w.heap.size < w2.heap.size := HC2.out.lt
        obtain ⟨fl2, nm2, pl2, ia2, ic2, ins2, oa2, oc2, outs2, va2, vc2, vars2, qa2, qc2, eqs2⟩ := y
        skip
        obtain ⟨q0, g0⟩ := own_cell OW.out (show k * 7 < n * 7 by omega)
        have p0 := World.ownsRow.frozenAt OW.out (k * 7)
        obtain ⟨q1, g1⟩ := own_cell OW.out (show k * 7 + 1 < n * 7 by omega)
        have p1 := World.ownsRow.frozenAt OW.out (k * 7 + 1)
        obtain ⟨q2, g2⟩ := own_cell OW.out (show k * 7 + 2 < n * 7 by omega)
        have p2 := World.ownsRow.frozenAt OW.out (k * 7 + 2)
        obtain ⟨q3, g3⟩ := own_cell OW.out (show k * 7 + 3 < n * 7 by omega)
        have p3 := World.ownsRow.frozenAt OW.out (k * 7 + 3)
        obtain ⟨q4, g4⟩ := own_cell OW.out (show k * 7 + 4 < n * 7 by omega)
        have p4 := World.ownsRow.frozenAt OW.out (k * 7 + 4)
        obtain ⟨q5, g5⟩ := own_cell OW.out (show k * 7 + 5 < n * 7 by omega)
        have p5 := World.ownsRow.frozenAt OW.out (k * 7 + 5)
        obtain ⟨q6, g6⟩ := own_cell OW.out (show k * 7 + 6 < n * 7 by omega)
        have p6 := World.ownsRow.frozenAt OW.out (k * 7 + 6)
        go_wp2_with fail
        go_roundw
        case rel =>
          have hs := copied_store (f := Nd.cells) (fun x => rfl) hlt HC2.out HSet.out
          simp only [setRow, Nd.cells, Nat.add_assoc, Nat.reduceAdd] at hs
          exact ⟨k + 1, _, by omega, by go_num, hs⟩
        case measure => simp [intOf]; omega
      · obtain rfl : k = n := by omega
        go_wp2_with fail
        go_ret
        exact made_some HMx.out HC.out
end Go.Proofs.YthbjagmlcemefaaDoor
/- The program's copied: a list made anew of what one makes of each element, at one type (written by gen_copied.py). -/
namespace Go.Proofs.YthbjagmlcemefaaDoor
open Go.RowKit
open Ex.size Ex.depth Ex.lies Ex.bulk Ex.good
attribute [local go_sem] later_size later_cell later_frozen later_setCell later_drew later_drewN later_tape drewN_setCell drewN_alloc drewN_later later_later lt_more lt_more1 lt_more2 lt_more3 lt_more4 lk0_0_1 lk1_0_1 lk2_0_1 lk0_0_2 lk1_0_2 lk2_0_2 lk0_1_2 lk0_0_3 lk1_0_3 lk2_0_3 lk0_1_3 lk0_2_3 lk0_0_4 lk1_0_4 lk2_0_4 lk0_1_4 lk0_2_4 lk0_3_4 lk0_0_5 lk1_0_5 lk2_0_5 lk0_1_5 lk0_2_5 lk0_3_5 lk0_4_5 lk0_0_6 lk1_0_6 lk2_0_6 lk0_1_6 lk0_2_6 lk0_3_6 lk0_4_6 lk0_5_6 lk0_0_7 lk1_0_7 lk2_0_7 lk0_1_7 lk0_2_7 lk0_3_7 lk0_4_7 lk0_5_7 lk0_6_7
theorem Tryd.infoMadeText : (Tryd.prog.info? 9).map (fun i => (i.zero, i.size, i.bytes)) = some (some (.string ⟨#[]⟩), 1, 16) := by kernel_rfl
set_option maxRecDepth 100000 in
set_option maxHeartbeats 6400000 in
theorem copiedText_calls (fn : Nat) (hent : ∀ args w, (callFunc fn args).run Tryd.prog w = .ok (.enter fn args) w) (l : List ByteArray) (a : Option Addr) (cap : Nat) (w : World) (R : Nat → List ByteArray → World → Prop)
    (hrow : rowIn textOf 1 w a l) (hn : l.length ≤ 1048576) (h0 : ∀ W, Below w.heap.size w W → w.heap.size < W.heap.size → R 0 [] W)
    (hset : ∀ k ys W j v, R k ys W → w.heap.size < W.heap.size → R k ys (W.setCell ⟨w.heap.size, j, none⟩ v))
    (hstep : ∀ k (hk : k < l.length) ys W, ys.length = k → R k ys W → Below w.heap.size w W → w.heap.size < W.heap.size → Calls Tryd.prog fn #[(Value.string l[k])] W fun x W' => ∃ y, x = .returned (Value.string y) ∧ R (k + 1) (ys ++ [y]) W' ∧ Below W.heap.size W W') :
    Calls Tryd.prog 105 #[.slice a l.length cap, .func (.func fn) #[] #[]] w fun x w' => MadeOf textOf 1 9 w l.length R x w' := by
  obtain ⟨i0, hi, hz0', hz1, hz2⟩ := info_parts Tryd.infoMadeText
  obtain ⟨n, hN⟩ : ∃ n, n = l.length := ⟨_, rfl⟩
  have HN : Hid (n = l.length) := hN
  have HI : Hid _ := hi
  have HZ0 : Hid _ := hz0'
  have HZ1 : Hid _ := hz1
  have HZ2 : Hid _ := hz2
  have HRow : Hid (rowIn textOf 1 w a l) := hrow
  have H0 : Hid _ := h0
  have HSet : Hid _ := hset
  have HStep : Hid _ := hstep
  have HBy : Hid (i0.bytes * n ≤ 281474976710656) := by rw [Hid, hz2]; omega
  have HMx : Hid (n ≤ maxLen) := by unfold Hid maxLen; omega
  rw [← hN] at hn ⊢
  clear hN hrow h0 hset hstep hi hz0' hz1 hz2
  cases a with
  | none =>
    have hE : ∀ w, (binOp .eql 30 (.slice none n cap) (.slice none 0 0)).run Tryd.prog w = .ok (.bool true) w := fun w => Lib.run_eql_slice_nil w _ _ none n cap 0 0 Tryd.underlying30
    have hl0 : Hid (n = 0) := by
      rw [Hid, HN.out]
      refine Classical.byContradiction fun h => ?_
      obtain ⟨b, o, h1, -⟩ := HRow.out (fun e => h (by rw [e]; rfl))
      cases h1
    go_enter Tryd.func105, Tryd.ntmps105
    go_wp2_with fail
    go_ret
    exact made_none (by rw [hl0.out])
  | some ad =>
    have hE : ∀ w, (binOp .eql 30 (.slice (some ad) n cap) (.slice none 0 0)).run Tryd.prog w = .ok (.bool false) w := fun w => Lib.run_eql_slice_nil w _ _ (some ad) n cap 0 0 Tryd.underlying30
    go_enter Tryd.func105, Tryd.ntmps105
    go_wp2_with (at_make; refine wpList_make_full _ rfl (.tmp 10) (.tmp 10) 30 rfl w.heap.size 9 i0 (.string ⟨#[]⟩) 1 Tryd.underlying30 HI.out HZ0.out HZ1.out _ _ _ _ n rfl rfl rfl rfl HBy.out HMx.out (Nat.le_refl _) ?_; intro W1 hown hgrow; have HOwn : Hid _ := hown; have HGr : Hid _ := hgrow; clear hown hgrow)
    go_loopw [14] (fun i wr => ∃ (k : Nat) (ys : List ByteArray), k ≤ n ∧ i = .int .i64 k ∧ Hid (Copied textOf 1 9 w n R k ys wr)) (fun i _ => n - (intOf i).toNat)
    case atStart => exact ⟨0, [], by omega, rfl, copied_start HOwn.out HGr.out H0.out⟩
    case round =>
      obtain ⟨k, ys, hk, rfl, HC⟩ := hrel
      by_cases hlt : k < n
      · have hkl : k < l.length := by rw [← HN.out]; exact hlt
        obtain ⟨b, o, had, hbl, hrow⟩ := HRow.out (by intro h; rw [h] at hkl; simp at hkl)
        injection had with had
        subst had
        have hlt0 := copied_lt HC.out (by omega)
        have hcr : ∀ j, j < 1 → wr.cell? ⟨b, o + k * 1 + j, none⟩ = (textOf l[k])[j]? := fun j hj => (HC.out.below.cell (p := ⟨b, o + k * 1 + j, none⟩) hbl).trans (hrow k hkl j hj)
        have CC := HStep.out k hkl ys wr HC.out.len HC.out.rel HC.out.below hlt0
        clear hrow
        generalize l[k] = y1 at *
        obtain ⟨s1, hs1⟩ : ∃ s1, s1 = y1 := ⟨_, rfl⟩
        rw [← hs1] at hcr CC; clear hs1
        have c0 : wr.cell? ⟨b, o + k, none⟩ = some (.string s1) := by have := hcr 0 (by omega); rw [Nat.mul_one, Nat.add_zero] at this; exact this
        clear hcr
        go_wp2_with fail
        refine CC.mono ?_
        rintro r w2 ⟨y, rfl, hr2, hb2⟩
        have HC2 : Hid (Copied' textOf 1 9 w n R k ys y w2) := copied_call HC.out hb2 hr2
        clear CC hr2 hb2 c0
        obtain ⟨xs, hOW, -⟩ := HC2.out.own
        have OW : Hid (w2.ownsRow w.heap.size 9 1 (.slice (some ⟨w.heap.size, 0, none⟩) n n) n xs) := hOW
        clear hOW
        have hlt2 : w.heap.size < w2.heap.size := HC2.out.lt
        obtain ⟨s2, hs2⟩ : ∃ s2, s2 = y := ⟨_, rfl⟩
        rw [← hs2] at HC2 ⊢; clear hs2
        obtain ⟨q0, g0⟩ := own_cell OW.out (show k < n * 1 by omega)
        have p0 := World.ownsRow.frozenAt OW.out (k)
        go_wp2_with fail
        go_roundw
        case rel =>
          have hs := copied_store (f := textOf) (fun x => rfl) hlt HC2.out HSet.out
          simp only [setRow, textOf, Nat.mul_one] at hs
          exact ⟨k + 1, _, by omega, by go_num, hs⟩
        case measure => simp [intOf]; omega
      · obtain rfl : k = n := by omega
        go_wp2_with fail
        go_ret
        exact made_some HMx.out HC.out
end Go.Proofs.YthbjagmlcemefaaDoor
/- The program's Copy of an expression: a copy, places too, in blocks of its own. -/
namespace Go.Proofs.YthbjagmlcemefaaDoor
open Go.RowKit
open Ex.size Ex.depth Ex.lies Ex.bulk Ex.good Ex.like Ex.inR Ex.cp
attribute [local go_sem] later_size later_cell later_frozen later_setCell later_drew later_drewN later_tape drewN_setCell drewN_alloc drewN_later later_later lt_more lt_more1 lt_more2 lt_more3 lt_more4 lk0_0_1 lk1_0_1 lk2_0_1 lk0_0_2 lk1_0_2 lk2_0_2 lk0_1_2 lk0_0_3 lk1_0_3 lk2_0_3 lk0_1_3 lk0_2_3 lk0_0_4 lk1_0_4 lk2_0_4 lk0_1_4 lk0_2_4 lk0_3_4 lk0_0_5 lk1_0_5 lk2_0_5 lk0_1_5 lk0_2_5 lk0_3_5 lk0_4_5 lk0_0_6 lk1_0_6 lk2_0_6 lk0_1_6 lk0_2_6 lk0_3_6 lk0_4_6 lk0_5_6 lk0_0_7 lk1_0_7 lk2_0_7 lk0_1_7 lk0_2_7 lk0_3_7 lk0_4_7 lk0_5_7 lk0_6_7
/-- What is still to be done. -/
def pend (fs : List Fr) (b o : Nat) (e : Ex) : Prop := ∃ f ∈ fs, ∃ i, ∃ h : i < f.l.length, b = f.b ∧ o = f.o + i * 6 ∧ e = f.l[i]
/-- What a level's row says. -/
def frOk (w0 w : World) (f : Fr) : Prop := w0.heap.size ≤ f.b ∧ f.o % 6 = 0 ∧ exBlock w f.b ∧ ∀ i (h : i < f.l.length), (∀ j, j < 6 → w.cell? ⟨f.b, f.o + i * 6 + j, none⟩ = f.l[i].cells[j]?) ∧ f.l[i].lies w0 ∧ f.l[i].bulk ≤ 1048576
structure CpJ (w0 : World) (r : Nat) (root : Ex) (fs : List Fr) (w : World) : Prop where
  below : Below w0.heap.size w0 w
  nodup : (fs.map Fr.b).Nodup
  rootB : exBlock w r
  fr : ∀ f ∈ fs, frOk w0 w f
  cp : root.cp w w0.heap.size (pend fs) r 0
theorem frOk_keep {w0 w w' : World} {f : Fr} (h : frOk w0 w f) (hw : w'.heap[f.b]? = w.heap[f.b]?) : frOk w0 w' f := by
  obtain ⟨h1, h2, ⟨cur, h3⟩, h4⟩ := h
  exact ⟨h1, h2, ⟨cur, hw.trans h3⟩, fun i hi => ⟨fun j hj => (World.cell?_of_block hw).trans ((h4 i hi).1 j hj), (h4 i hi).2⟩⟩
theorem CpJ.keep {w0 w w' : World} {r : Nat} {root : Ex} {fs : List Fr} (h : CpJ w0 r root fs w) (hb : Below w0.heap.size w w') (hw : ∀ b, exBlock w b → w'.heap[b]? = w.heap[b]?) : CpJ w0 r root fs w' :=
  ⟨h.below.trans hb, h.nodup, by obtain ⟨cur, hc⟩ := h.rootB; exact ⟨cur, (hw r ⟨cur, hc⟩).trans hc⟩, fun f hf => frOk_keep (h.fr f hf) (hw _ (h.fr f hf).2.2.1), cp_keep hw root r 0 h.rootB h.cp⟩
theorem CpJ.stab {w0 W : World} {r : Nat} {root : Ex} (hW : w0.heap.size ≤ W.heap.size) (fs : List Fr) (w1 w2 : World) (h : CpJ w0 r root fs w1) (hs : W.heap.size ≤ w1.heap.size) (hb : ButLevels W.heap.size w1 w2) : CpJ w0 r root fs w2 :=
  h.keep ((hb.below hs).mono hW) fun b ⟨cur, hc⟩ => hb.block b (lt_of_block hc) (.inr fun cu h => by rw [hc] at h; simp at h)
theorem ex_row {w0 w : World} {e : Ex} (h : e.lies w0) (hb : Below w0.heap.size w0 w) : rowIn Ex.cells 6 w e.ad e.args := by
  obtain ⟨kd, pl, nm, it, dn, ad, cap, l⟩ := e
  obtain ⟨b, o, h1, h2⟩ := h
  intro hne
  have hlen : 0 < l.length := List.length_pos_iff.2 hne
  have g := lieAt_get l o 0 h2 hlen
  have hlt : b < w0.heap.size := by
    have := g.1 0 (by omega)
    rw [List.getElem?_eq_getElem (by rw [cells_len]; omega)] at this
    exact World.block_lt_of_cell? w0 ⟨b, _, none⟩ this
  exact ⟨b, o, h1 hne, Nat.lt_of_lt_of_le hlt hb.size, fun i hi j hj => (hb.cell (p := ⟨b, _, none⟩) hlt).trans ((lieAt_get l o i h2 hi).1 j hj)⟩
theorem ex_low {w0 : World} {e : Ex} (h : e.lies w0) (hne : e.args ≠ []) : ∃ b0 o0, e.ad = some ⟨b0, o0, none⟩ ∧ b0 < w0.heap.size := by
  obtain ⟨b, o, h1, h2, -⟩ := ex_row h (Below.refl _ _) hne
  exact ⟨b, o, h1, h2⟩
theorem ex_args {w0 : World} {e : Ex} (h : e.lies w0) (hb : e.bulk ≤ 1048576) (i : Nat) (hi : i < e.args.length) : e.args[i].lies w0 ∧ e.args[i].bulk ≤ 1048576 := by
  obtain ⟨kd, pl, nm, it, dn, ad, cap, l⟩ := e
  obtain ⟨b, o, h1, h2⟩ := h
  refine ⟨(lieAt_get l o i h2 hi).2, ?_⟩
  have := bulk_arg (l := l) hi
  simp only [Ex.bulk] at hb
  show l[i].bulk ≤ _
  omega
theorem ex_names {e : Ex} (hb : e.bulk ≤ 1048576) : e.nm.size ≤ 1048576 ∧ e.args.length ≤ 1048576 := by
  obtain ⟨hn, hnm⟩ := len_args_bulk hb
  exact ⟨hnm, hn⟩
/-- What a visit leaves. -/
theorem CpJ.next {w0 w w2 : World} {r : Nat} {root : Ex} {fs : List Fr} {b o c d : Nat} {e : Ex} {l : List Ex} (h : CpJ w0 r root (fs ++ [⟨b, o, c, e :: l, d⟩]) w) (hb2 : Below w.heap.size w w2) (a' : Option Addr) (c' : Nat) (hc1 : e.args.length ≤ c') (hc2 : c' ≤ maxLen)
    (hnew : e.args ≠ [] → a' = some ⟨w.heap.size, 0, none⟩ ∧ exBlock w2 w.heap.size ∧ rowAt Ex.cells 6 w2 w.heap.size 0 e.args) :
    CpJ w0 r root (nextFrs fs b o c l d w.heap.size 0 c' e.args) (w2.setCell ⟨b, o + 5, none⟩ (.slice a' e.args.length c')) := by
  have hf := h.fr ⟨b, o, c, e :: l, d⟩ (by simp)
  obtain ⟨f1, f2, f3, f4⟩ := hf
  simp only at f1 f2 f3 f4
  have hbw : w0.heap.size ≤ w.heap.size := h.below.size
  have hblt : b < w.heap.size := exBlock_lt f3
  have keep : ∀ x, exBlock w x → w2.heap[x]? = w.heap[x]? := fun x hx => hb2.block x (exBlock_lt hx)
  have h2 : CpJ w0 r root (fs ++ [⟨b, o, c, e :: l, d⟩]) w2 := h.keep (hb2.mono hbw) keep
  have hcell : ∀ j, j < 6 → w2.cell? ⟨b, o + j, none⟩ = e.cells[j]? := fun j hj => by
    have := (f4 0 (by simp)).1 j hj
    simp only [Nat.zero_mul, Nat.add_zero, List.getElem_cons_zero] at this
    exact (hb2.cell (p := ⟨b, o + j, none⟩) hblt).trans this
  have hel : e.lies w0 := by have := (f4 0 (by simp)).2.1; simpa using this
  have heb : e.bulk ≤ 1048576 := by have := (f4 0 (by simp)).2.2; simpa using this
  have hnd := h.nodup
  rw [List.map_append, List.nodup_append] at hnd
  obtain ⟨n1, -, n3⟩ := hnd
  have hneb : ∀ f ∈ fs, f.b ≠ b := fun f hf => n3 f.b (List.mem_map.2 ⟨f, hf, rfl⟩) b (by simp)
  have hltf : ∀ f ∈ fs, f.b < w.heap.size := fun f hf => exBlock_lt (h.fr f (by simp [hf])).2.2.1
  have other : ∀ x, x ≠ b → (w2.setCell ⟨b, o + 5, none⟩ (.slice a' e.args.length c')).heap[x]? = w2.heap[x]? := fun x hx => Below.heap_setCell _ _ _ _ hx
  refine ⟨h2.below.setCell (p := ⟨b, o + 5, none⟩) f1 _, ?_, exBlock_set h2.rootB, fun f hf => ?_, ?_⟩
  · rw [nextFrs, List.map_append, List.map_append, List.nodup_append, List.nodup_append]
    refine ⟨⟨n1, by split <;> simp, fun x hx y hy => ?_⟩, by split <;> simp, fun x hx y hy => ?_⟩
    · split at hy
      · simp at hy
      · simp only [List.map_cons, List.map_nil, List.mem_singleton] at hy
        subst hy
        obtain ⟨f, hf, rfl⟩ := List.mem_map.1 hx
        exact hneb f hf
    · split at hy
      · simp at hy
      · simp only [List.map_cons, List.map_nil, List.mem_singleton] at hy
        subst hy
        rw [List.mem_append] at hx
        rcases hx with hx | hx
        · obtain ⟨f, hf, rfl⟩ := List.mem_map.1 hx
          have := hltf f hf
          omega
        · split at hx
          · simp at hx
          · simp only [List.map_cons, List.map_nil, List.mem_singleton] at hx
            subst hx
            omega
  · rw [nextFrs, List.mem_append, List.mem_append] at hf
    rcases hf with (hf | hf) | hf
    · exact frOk_keep (h2.fr f (by simp [hf])) (other _ (hneb f hf))
    · split at hf
      · simp at hf
      · rw [List.mem_singleton] at hf
        subst hf
        refine ⟨f1, by simp only; omega, exBlock_set (h2.fr ⟨b, o, c, e :: l, d⟩ (by simp)).2.2.1, fun i hi => ?_⟩
        simp only at hi ⊢
        have g := f4 (i + 1) (by simpa using hi)
        simp only [List.getElem_cons_succ] at g
        refine ⟨fun j hj => ?_, g.2⟩
        rw [World.cell?_setCell_other _ _ _ _ (by simp only [ne_eq, Addr.mk.injEq, true_and, and_true]; omega), show o + 6 + i * 6 + j = o + (i + 1) * 6 + j by omega]
        exact (hb2.cell (p := ⟨b, _, none⟩) hblt).trans (g.1 j hj)
    · split at hf
      · simp at hf
      · rename_i hne
        rw [List.mem_singleton] at hf
        subst hf
        obtain ⟨k1, k2, k3⟩ := hnew hne
        have hx : w.heap.size ≠ b := by omega
        refine ⟨hbw, rfl, exBlock_set k2, fun i hi => ⟨fun j hj => ?_, ex_args hel heb i hi⟩⟩
        simp only at hi ⊢
        exact (World.cell?_of_block (other _ hx)).trans (k3 i hi j hj)
  · refine cp_step f2 hcell (fun hne => ex_low hel hne) hc1 hc2 (fun hne => ?_) (fun x y e1 hp hxy => ?_) (fun e1 hp => ?_) root r 0 rfl h2.cp
    · obtain ⟨k1, k2, k3⟩ := hnew hne
      refine ⟨w.heap.size, k1, hbw, k2, fun i hi => ⟨⟨w.heap.size, 0, c', e.args, d + 1⟩, ?_, i, hi, rfl, by simp, rfl⟩⟩
      rw [nextFrs, List.mem_append, if_neg hne]
      exact .inr (List.mem_singleton.2 rfl)
    · obtain ⟨f, hf, i, hi, rfl, rfl, rfl⟩ := hp
      rw [List.mem_append, List.mem_singleton] at hf
      rcases hf with hf | rfl
      · exact ⟨f, by rw [nextFrs, List.mem_append, List.mem_append]; exact .inl (.inl hf), i, hi, rfl, rfl, rfl⟩
      · cases i with
        | zero => exact absurd ⟨rfl, by simp⟩ hxy
        | succ i =>
          simp only [List.length_cons] at hi
          have hl : l ≠ [] := fun h => by rw [h] at hi; simp at hi
          refine ⟨⟨b, o + 6, c - 1, l, d⟩, ?_, i, by simp only; omega, rfl, by simp only; omega, by simp⟩
          rw [nextFrs, List.mem_append, List.mem_append, if_neg hl]
          exact .inl (.inr (List.mem_singleton.2 rfl))
    · obtain ⟨f, hf, i, hi, hbe, hoe, rfl⟩ := hp
      rw [List.mem_append, List.mem_singleton] at hf
      rcases hf with hf | rfl
      · exact absurd hbe.symm (hneb f hf)
      · simp only at hoe
        obtain rfl : i = 0 := by omega
        rfl
set_option maxRecDepth 100000 in
set_option maxHeartbeats 3200000 in
theorem copy1_calls {w0 w : World} {r : Nat} {root : Ex} {fs : List Fr} {b o c d : Nat} {e : Ex} {l : List Ex} (h : CpJ w0 r root (fs ++ [⟨b, o, c, e :: l, d⟩]) w) :
    Calls Tryd.prog 48 #[.pointer (some ⟨b, o, none⟩), .int .i64 d] w fun x w' => x = .returned (.tuple #[]) ∧ ∃ w2 a' c', Below w.heap.size w w2 ∧ e.args.length ≤ c' ∧ c' ≤ maxLen ∧ (e.args ≠ [] → a' = some ⟨w.heap.size, 0, none⟩ ∧ exBlock w2 w.heap.size ∧ rowAt Ex.cells 6 w2 w.heap.size 0 e.args) ∧ w' = w2.setCell ⟨b, o + 5, none⟩ (.slice a' e.args.length c') := by
  have hf := h.fr ⟨b, o, c, e :: l, d⟩ (by simp)
  obtain ⟨f1, f2, f3, f4⟩ := hf
  simp only at f1 f2 f3 f4
  have hel : e.lies w0 := by have := (f4 0 (by simp)).2.1; simpa using this
  have heb : e.bulk ≤ 1048576 := by have := (f4 0 (by simp)).2.2; simpa using this
  have c5 : w.cell? ⟨b, o + 5, none⟩ = some (.slice e.ad e.args.length e.cap) := by
    have := (f4 0 (by simp)).1 5 (by omega)
    simp only [Nat.zero_mul, Nat.add_zero, List.getElem_cons_zero] at this
    rw [this]
    cases e
    rfl
  have hz := exBlock_free (j := o + 5) f3
  have hlt := exBlock_lt f3
  have CM := copiedExpr_calls 46 (enters_of Tryd.func46 (by kernel_rfl) rfl) e.args e.ad e.cap w (fun k ys _ => ys = e.args.take k) (ex_row hel h.below) (ex_names heb).2 (fun W _ _ => by simp) (fun k ys W j v hr _ => hr)
    (fun k hk ys W hl hr _ _ => (copyPart_calls e.args[k] (ex_names (ex_args hel heb k hk).2).1 W).mono fun x W' ⟨h1, h2⟩ => ⟨e.args[k], h1, by rw [hr, List.take_succ_eq_append_getElem hk], h2⟩)
  have HMx : Hid (e.args.length ≤ 1048576) := (ex_names heb).2
  generalize hAd : e.ad = ad at *
  generalize hCp : e.cap = cap at *
  clear hAd hCp f4 hel heb h f1 f2 f3
  go_enter Tryd.func48, Tryd.ntmps48
  go_wp2_with fail
  refine CM.mono ?_
  intro x w2 hm
  rcases hm with ⟨h0, rfl, rfl⟩ | ⟨ys, rfl, hy, hmx, hrow, hblk, hr, hb2⟩
  · have H0 : Hid _ := h0
    clear h0 CM
    go_wp2_with fail
    go_end0
    refine ⟨rfl, w2, none, 0, Below.refl _ _, by rw [H0.out]; exact Nat.le_refl _, by unfold maxLen; omega, fun hne => absurd (List.eq_nil_of_length_eq_zero H0.out) hne, by rw [H0.out]⟩
  · have c5' : w2.cell? ⟨b, o + 5, none⟩ = some (.slice ad e.args.length cap) := (hb2.cell (p := ⟨b, o + 5, none⟩) hlt).trans c5
    have hz' : w2.frozen? ⟨b, o + 5, none⟩ = false := (hb2.frozen (p := ⟨b, o + 5, none⟩) hlt).trans hz
    have HB : Hid (Below w.heap.size w w2) := hb2
    have hys : ys = e.args := by rw [hr, List.take_length]
    have HRow : Hid (rowAt Ex.cells 6 w2 w.heap.size 0 e.args) := by rw [← hys]; exact hrow
    have HBlk : Hid (exBlock w2 w.heap.size) := hblk
    have HM : Hid (e.args.length ≤ maxLen) := hmx
    clear hb2 hrow hblk hr hy CM hys hmx
    go_wp2_with fail
    go_end0
    exact ⟨rfl, w2, _, _, HB.out, Nat.le_refl _, HM.out, fun _ => ⟨rfl, HBlk.out, HRow.out⟩, rfl⟩
end Go.Proofs.YthbjagmlcemefaaDoor
/- The program's Copy: the walk around the visits. -/
namespace Go.Proofs.YthbjagmlcemefaaDoor
open Go.RowKit
open Ex.size Ex.depth Ex.lies Ex.bulk Ex.good Ex.like Ex.inR Ex.cp
attribute [local go_sem] later_size later_cell later_frozen later_setCell later_drew later_drewN later_tape drewN_setCell drewN_alloc drewN_later later_later lt_more lt_more1 lt_more2 lt_more3 lt_more4 lk0_0_1 lk1_0_1 lk2_0_1 lk0_0_2 lk1_0_2 lk2_0_2 lk0_1_2 lk0_0_3 lk1_0_3 lk2_0_3 lk0_1_3 lk0_2_3 lk0_0_4 lk1_0_4 lk2_0_4 lk0_1_4 lk0_2_4 lk0_3_4 lk0_0_5 lk1_0_5 lk2_0_5 lk0_1_5 lk0_2_5 lk0_3_5 lk0_4_5 lk0_0_6 lk1_0_6 lk2_0_6 lk0_1_6 lk0_2_6 lk0_3_6 lk0_4_6 lk0_5_6 lk0_0_7 lk1_0_7 lk2_0_7 lk0_1_7 lk0_2_7 lk0_3_7 lk0_4_7 lk0_5_7 lk0_6_7
/-- A copy, in blocks of its own. -/
structure CopyOf (w w' : World) (c e : Ex) : Prop where
  lies : c.lies w'
  like : c.like e
  inR : c.inR w.heap.size w'.heap.size
  good : c.good
  skel : c.skel w'
  below : Below w.heap.size w w'
theorem copy_visits (w0 W : World) (r : Nat) (root : Ex) : Visits 48 #[] W.heap.size (CpJ w0 r root) := by
  intro fs b o c e l d w hJ _ hB
  refine (copy1_calls hJ).mono ?_
  rintro x w' ⟨rfl, w2, a', c', hb2, h1, h2, h3, rfl⟩
  have hf := hJ.fr ⟨b, o, c, e :: l, d⟩ (by simp)
  have hex := hf.2.2.1
  simp only at hex
  obtain ⟨cur, hcur⟩ := hex
  have hblt := lt_of_block hcur
  refine ⟨rfl, fun k cu hk => ?_, by simpa using hb2.size, a', w.heap.size, 0, c', ?_, fun hne => (h3 hne).1, h1, h2, hJ.next hb2 a' c' h1 h2 h3⟩
  · rw [Below.heap_setCell _ _ _ _ (fun he => by simp only at he; rw [he, hcur] at hk; simp at hk)]
    exact (hb2.block k (lt_of_block hk)).trans hk
  · have h5 : w.cell? ⟨b, o + 5, none⟩ = e.cells[5]? := by
      have := (hf.2.2.2 0 (by simp)).1 5 (by omega)
      simpa using this
    exact World.cell?_setCell_same _ _ _ (((hb2.cell (p := ⟨b, o + 5, none⟩) hblt).trans h5).trans (List.getElem?_eq_getElem (by rw [cells_len]; omega)))
theorem pend_nil : pend [] = fun _ _ _ => False := by
  funext b o e
  simp [pend]
theorem copy_walk (e : Ex) (hs : e.bulk ≤ 1048576) (hg : e.good) (w1 : World) (hl : e.lies w1) : Calls Tryd.prog 47 #[.slice (some ⟨w1.heap.size, 0, none⟩) 1 1, .func (.func 48) #[] #[]] (w1.alloc (.cells e.cells.toArray 33)) fun x w' => x = .returned (.tuple #[]) ∧ ∃ c : Ex, (∀ j, j < 6 → w'.cell? ⟨w1.heap.size, j, none⟩ = c.cells[j]?) ∧ CopyOf w1 w' c e := by
  have hsz : (w1.alloc (.cells e.cells.toArray 33)).heap.size = w1.heap.size + 1 := by simp
  have hJ : CpJ w1 w1.heap.size e [⟨w1.heap.size, 0, 1, [e], 1⟩] (w1.alloc (.cells e.cells.toArray 33)) := by
    refine ⟨(Below.refl _ _).alloc (Nat.le_refl _) _, by simp, ⟨_, heap_alloc_eq rfl⟩, fun f hf => ?_, ?_⟩
    · rw [List.mem_singleton] at hf
      subst hf
      refine ⟨Nat.le_refl _, rfl, ⟨_, heap_alloc_eq rfl⟩, fun i hi => ?_⟩
      simp only [List.length_cons, List.length_nil] at hi
      obtain rfl : i = 0 := by omega
      simp only [Nat.zero_mul, Nat.zero_add, List.getElem_cons_zero]
      exact ⟨fun j _ => cell_alloc_eq rfl, hl, hs⟩
    · obtain ⟨kd, pl, nm, it, dn, ad, cap, l⟩ := e
      exact .inl ⟨_, List.mem_singleton.2 rfl, 0, by simp, rfl, by simp, by simp⟩
  have hsb := size_bulk e
  have CW := walk_calls 48 #[] (CpJ w1 w1.heap.size e) (w1.alloc (.cells e.cells.toArray 33)) (enters_of Tryd.func48 (by kernel_rfl) rfl)
    (fun fs wa wb h h1 h2 => h.stab (by omega) fs wa wb h1 h2) (copy_visits _ _ _ _) w1.heap.size 0 1 [e] (by simp) (by simp) (by unfold maxLen; omega) (by simp only [sizes]; omega) hJ
  refine CW.mono ?_
  rintro x w' ⟨rfl, hJ'⟩
  have hcp := hJ'.cp
  rw [pend_nil] at hcp
  obtain ⟨c, c1, c2, c3, c4, c5, c6⟩ := cp_done e w1.heap.size 0 hcp
  exact ⟨rfl, c, fun j hj => by have := c1 j hj; rw [Nat.zero_add] at this; exact this, c2, c3, c4, c5 hg, c6, hJ'.below⟩
set_option maxRecDepth 100000 in
set_option maxHeartbeats 3200000 in
theorem copy_calls (e : Ex) (hs : e.bulk ≤ 1048576) (hg : e.good) (w : World) (hl : e.lies w) : Calls Tryd.prog 19 #[e.val] w fun x w' => ∃ c : Ex, x = .returned c.val ∧ CopyOf w w' c e := by
  have CP : Hid (∀ w', Calls Tryd.prog 46 #[e.val] w' fun r w'' => r = .returned e.val ∧ Below w'.heap.size w' w'') := fun w' => copyPart_calls e (ex_names hs).1 w'
  have CW : Hid (∀ w', Below w.heap.size w w' → Calls Tryd.prog 47 #[.slice (some ⟨w'.heap.size, 0, none⟩) 1 1, .func (.func 48) #[] #[]] (w'.alloc (.cells e.cells.toArray 33)) fun x w'' => x = .returned (.tuple #[]) ∧ ∃ c : Ex, (∀ j, j < 6 → w''.cell? ⟨w'.heap.size, j, none⟩ = c.cells[j]?) ∧ CopyOf w' w'' c e) := fun w' hb => copy_walk e hs hg w' (lies_below hb e hl)
  clear hs hg hl
  have HL : Hid (∀ c : Ex, c.like e → c.like e) := fun _ h => h
  obtain ⟨kd, pl, nm, it, dn, ad, cap, l⟩ := e
  simp only [Ex.val, Ex.cells, List.toArray] at CP CW ⊢
  go_enter Tryd.func19, Tryd.ntmps19
  go_wp2_with fail
  refine (CP.out _).mono ?_
  rintro r w1 ⟨rfl, hb⟩
  have hz : w.heap.size + 1 < w1.heap.size := by have := hb.size; simp at this; omega
  have HB : Hid (Below w.heap.size w w1) := (((Below.refl _ _).alloc (Nat.le_refl _) _).alloc (by simp) _).trans (hb.mono (by simp; omega))
  have f1 : ∀ j, w1.frozen? ⟨w.heap.size + 1, j, none⟩ = false := fun j => (hb.frozen (p := ⟨w.heap.size + 1, j, none⟩) (by simp)).trans (by simp)
  have g : ∀ j v, ((w.alloc (.cells #[.int .u8 kd, .int .i64 pl, .string nm, .int .i64 it, .int .i64 dn, .slice ad l.length cap] 33)).alloc (.cells #[.int .u8 0, .int .i64 0, .string ⟨#[]⟩, .int .i64 0, .int .i64 0, .slice none 0 0] 33)).cell? ⟨w.heap.size + 1, j, none⟩ = some v → w1.cell? ⟨w.heap.size + 1, j, none⟩ = some v := fun j v h => (hb.cell (p := ⟨w.heap.size + 1, j, none⟩) (by simp)).trans h
  have d0 := g 0 (.int .u8 0) (by simp)
  have d1 := g 1 (.int .i64 0) (by simp)
  have d2 := g 2 (.string ⟨#[]⟩) (by simp)
  have d3 := g 3 (.int .i64 0) (by simp)
  have d4 := g 4 (.int .i64 0) (by simp)
  have d5 := g 5 (.slice none 0 0) (by simp)
  clear hb g
  have CW1 := CW.out w1 HB.out
  clear CW CP
  go_wp2_with fail
  refine CW1.mono ?_
  rintro r w3 ⟨rfl, c, hc, hco⟩
  have HCo : Hid _ := hco
  have hb3 := hco.below
  have k : ∀ j, w3.cell? ⟨w.heap.size + 1, j, none⟩ = w1.cell? ⟨w.heap.size + 1, j, none⟩ := fun j => hb3.cell (p := ⟨w.heap.size + 1, j, none⟩) hz
  have d0' := (k 0).trans d0
  have d1' := (k 1).trans d1
  have d2' := (k 2).trans d2
  have d3' := (k 3).trans d3
  have d4' := (k 4).trans d4
  have d5' := (k 5).trans d5
  have f3 : ∀ j, w3.frozen? ⟨w.heap.size + 1, j, none⟩ = false := fun j => (hb3.frozen (p := ⟨w.heap.size + 1, j, none⟩) hz).trans (f1 j)
  have hne : w1.heap.size ≠ w.heap.size + 1 := by omega
  have hne' : w.heap.size + 1 ≠ w1.heap.size := by omega
  have hz3 : w.heap.size + 1 < w3.heap.size := Nat.lt_of_lt_of_le hz hb3.size
  obtain ⟨kd', pl', nm', it', dn', ad', cap', l'⟩ := c
  have c0 : w3.cell? ⟨w1.heap.size, 0, none⟩ = some (.int .u8 kd') := hc 0 (by omega)
  have c1 : w3.cell? ⟨w1.heap.size, 1, none⟩ = some (.int .i64 pl') := hc 1 (by omega)
  have c2 : w3.cell? ⟨w1.heap.size, 2, none⟩ = some (.string nm') := hc 2 (by omega)
  have c3 : w3.cell? ⟨w1.heap.size, 3, none⟩ = some (.int .i64 it') := hc 3 (by omega)
  have c4 : w3.cell? ⟨w1.heap.size, 4, none⟩ = some (.int .i64 dn') := hc 4 (by omega)
  have c5 : w3.cell? ⟨w1.heap.size, 5, none⟩ = some (.slice ad' l'.length cap') := hc 5 (by omega)
  clear hc hco hb3 k CW1 d0 d1 d2 d3 d4 d5 f1
  go_wp2_with fail
  refine bodyPost_ret (v := .agg #[.int .u8 kd', .int .i64 pl', .string nm', .int .i64 it', .int .i64 dn', .slice ad' l'.length cap']) (by simp [results, Tryd.results19, go_sem, *]; try rfl) rfl ⟨⟨kd', pl', nm', it', dn', ad', cap', l'⟩, rfl, ?_⟩
  have hco := HCo.out
  have hin := hco.inR
  have hbl := hco.below
  have hsame : ∀ b, w1.heap.size ≤ b → b < w3.heap.size → ((((((w3.setCell ⟨w.heap.size + 1, 0, none⟩ (.int .u8 kd')).setCell ⟨w.heap.size + 1, 1, none⟩ (.int .i64 pl')).setCell ⟨w.heap.size + 1, 2, none⟩ (.string nm')).setCell ⟨w.heap.size + 1, 3, none⟩ (.int .i64 it')).setCell ⟨w.heap.size + 1, 4, none⟩ (.int .i64 dn')).setCell ⟨w.heap.size + 1, 5, none⟩ (.slice ad' l'.length cap')).heap[b]? = w3.heap[b]? := fun b h1 _ => by
    rw [Below.heap_setCell _ _ _ _ (show b ≠ w.heap.size + 1 by omega), Below.heap_setCell _ _ _ _ (show b ≠ w.heap.size + 1 by omega), Below.heap_setCell _ _ _ _ (show b ≠ w.heap.size + 1 by omega), Below.heap_setCell _ _ _ _ (show b ≠ w.heap.size + 1 by omega), Below.heap_setCell _ _ _ _ (show b ≠ w.heap.size + 1 by omega), Below.heap_setCell _ _ _ _ (show b ≠ w.heap.size + 1 by omega)]
  refine ⟨lies_inR hsame hin hco.lies, hco.like, inR_mono (by omega) (by simp) hin, hco.good, skel_inR hsame hin hco.skel, ?_⟩
  exact (((((((HB.out.trans (hbl.mono (by omega))).setCell (p := ⟨w.heap.size + 1, 0, none⟩) (Nat.le_succ _) _).setCell (p := ⟨w.heap.size + 1, 1, none⟩) (Nat.le_succ _) _).setCell (p := ⟨w.heap.size + 1, 2, none⟩) (Nat.le_succ _) _).setCell (p := ⟨w.heap.size + 1, 3, none⟩) (Nat.le_succ _) _).setCell (p := ⟨w.heap.size + 1, 4, none⟩) (Nat.le_succ _) _).setCell (p := ⟨w.heap.size + 1, 5, none⟩) (Nat.le_succ _) _)
end Go.Proofs.YthbjagmlcemefaaDoor
/- The statement's spoil: all kinds of Args are changed, and nothing else, and that only in the tree's own blocks. -/
namespace Go.Proofs.YthbjagmlcemefaaDoor
open Go.RowKit
open Ex.size Ex.depth Ex.lies Ex.bulk Ex.good Ex.like Ex.inR Ex.skel
attribute [local go_sem] later_size later_cell later_frozen later_setCell later_drew later_drewN later_tape drewN_setCell drewN_alloc drewN_later later_later lt_more lt_more1 lt_more2 lt_more3 lt_more4 lk0_0_1 lk1_0_1 lk2_0_1 lk0_0_2 lk1_0_2 lk2_0_2 lk0_1_2 lk0_0_3 lk1_0_3 lk2_0_3 lk0_1_3 lk0_2_3 lk0_0_4 lk1_0_4 lk2_0_4 lk0_1_4 lk0_2_4 lk0_3_4 lk0_0_5 lk1_0_5 lk2_0_5 lk0_1_5 lk0_2_5 lk0_3_5 lk0_4_5 lk0_0_6 lk1_0_6 lk2_0_6 lk0_1_6 lk0_2_6 lk0_3_6 lk0_4_6 lk0_5_6 lk0_0_7 lk1_0_7 lk2_0_7 lk0_1_7 lk0_2_7 lk0_3_7 lk0_4_7 lk0_5_7 lk0_6_7
/-- All is as it was but for blocks between. -/
structure ButIn (lo hi : Nat) (w w' : World) : Prop where
  os : w'.os = w.os
  tape : w'.tape = w.tape
  output : w'.output = w.output
  size : w.heap.size ≤ w'.heap.size
  block : ∀ k, k < w.heap.size → ¬ (lo ≤ k ∧ k < hi) → w'.heap[k]? = w.heap[k]?
theorem ButIn.refl (lo hi : Nat) (w : World) : ButIn lo hi w w := ⟨rfl, rfl, rfl, Nat.le_refl _, fun _ _ _ => rfl⟩
theorem ButIn.trans {lo hi : Nat} {a b c : World} (h : ButIn lo hi a b) (k : ButIn lo hi b c) : ButIn lo hi a c :=
  ⟨k.os.trans h.os, k.tape.trans h.tape, k.output.trans h.output, Nat.le_trans h.size k.size, fun i hi' hn => (k.block i (Nat.lt_of_lt_of_le hi' h.size) hn).trans (h.block i hi' hn)⟩
theorem ButIn.of_below {lo hi : Nat} {w w' : World} (h : Below w.heap.size w w') : ButIn lo hi w w' := ⟨h.os, h.tape, h.output, h.size, fun k hk _ => h.block k hk⟩
theorem ButIn.below {lo hi L : Nat} {w w' : World} (h : ButIn lo hi w w') (hL : L ≤ lo) (hw : L ≤ w.heap.size) : Below L w w' := ⟨h.os, h.tape, h.output, h.size, fun k hk => h.block k (by omega) (by omega)⟩
theorem ButIn.cell {lo hi b o : Nat} {w w' : World} (h : ButIn lo hi w w') (hb : b < w.heap.size) (hn : ¬ (lo ≤ b ∧ b < hi)) : w'.cell? ⟨b, o, none⟩ = w.cell? ⟨b, o, none⟩ := World.cell?_of_block (h.block b hb hn)
theorem spoilt_kind {w : World} {b o : Nat} (ho : o % 6 = 0) (hc : ∃ k0, w.cell? ⟨b, o, none⟩ = some (.int .u8 k0)) : Spoilt w (w.setCell ⟨b, o, none⟩ (.int .u8 99)) := by
  obtain ⟨k0, hc⟩ := hc
  refine ⟨fun x hx => exBlock_set hx, fun x j _ => ?_⟩
  by_cases h : x = b ∧ j = o
  · obtain ⟨rfl, rfl⟩ := h
    exact .inr ⟨ho, World.cell?_setCell_same _ _ _ hc⟩
  · exact .inl (World.cell?_setCell_other _ _ _ _ (by simp only [ne_eq, Addr.mk.injEq, and_true]; omega))
theorem butIn_set {lo hi b o : Nat} {w : World} (h1 : lo ≤ b) (h2 : b < hi) (v : Value) : ButIn lo hi w (w.setCell ⟨b, o, none⟩ v) :=
  ⟨rfl, rfl, rfl, by simp, fun k _ hn => Below.heap_setCell _ _ _ _ (show k ≠ b from fun e => hn (by omega))⟩
theorem spoilt_alloc (w : World) (o : Obj) : Spoilt w (w.alloc o) := .of_same fun _ ⟨_, hc⟩ => Below.heap_alloc _ _ _ (lt_of_block hc)
set_option maxRecDepth 100000 in
set_option maxHeartbeats 3200000 in
theorem spoil_calls (m : Nat) : ∀ (e : Ex) (k0 : Int) (lo hi : Nat), e.size ≤ m → e.size ≤ 1048576 → ∀ w, e.skel w → e.inR lo hi → hi ≤ w.heap.size → Calls Tryd.prog 26 #[.agg #[.int .u8 k0, .int .i64 e.pl, .string e.nm, .int .i64 e.it, .int .i64 e.dn, .slice e.ad e.args.length e.cap]] w fun x w' => x = .returned (.tuple #[]) ∧ Spoilt w w' ∧ ButIn lo hi w w' := by
  induction m with
  | zero => intro e _ _ _ h; have := size_pos e; omega
  | succ m ih =>
    rintro ⟨kd, pl, nm, it, dn, a, cap, l⟩ k0 lo hi hm hbig w hsk ⟨hin, hins⟩ hhi
    obtain ⟨n, hn⟩ : ∃ n, n = l.length := ⟨_, rfl⟩
    have HM : Hid (1 + sizes l ≤ m + 1) := hm
    have HG : Hid (1 + sizes l ≤ 1048576) := hbig
    have hnb : n ≤ 1048576 := by have h1 := len_le_sizes l; have := HG.out; omega
    simp only
    rw [← hn]
    have HN : Hid (n = l.length) := hn
    have HSk : Hid (l ≠ [] → ∃ b, a = some ⟨b, 0, none⟩ ∧ exBlock w b ∧ skelAt w b 0 l) := hsk
    have HIn : Hid _ := hin
    have HIns : Hid _ := hins
    have HIH : Hid _ := ih
    have HHi : Hid _ := hhi
    clear hn hsk hin hins ih hm hbig hhi
    go_enter Tryd.func26, Tryd.ntmps26
    go_wp2_with fail
    go_loopw [2] (fun i wr => ∃ k : Nat, k ≤ n ∧ i = .int .i64 k ∧ wr.cell? ⟨w.heap.size, 5, none⟩ = some (.slice a n cap) ∧ w.heap.size < wr.heap.size ∧ Hid (Spoilt w wr) ∧ Hid (ButIn lo hi w wr)) (fun i _ => n - (intOf i).toNat)
    case atStart => exact ⟨0, by omega, rfl, by simp, by simp, spoilt_alloc _ _, .of_below ((Below.refl _ _).alloc (Nat.le_refl _) _)⟩
    case round =>
      obtain ⟨k, hk, rfl, hbox, hsz, HS, HBI⟩ := hrel
      by_cases hlt : k < n
      · have hkl : k < l.length := by rw [← HN.out]; exact hlt
        have hne : l ≠ [] := by intro h; rw [h] at hkl; simp at hkl
        obtain ⟨b, rfl, hex, hsa⟩ := HSk.out hne
        obtain ⟨b', o', e', l1, l2⟩ := HIn.out hne
        obtain rfl : b = b' := by injection e' with e'; injection e'
        clear e'
        have hex' := HS.out.blk b hex
        have hsa' : skelAt wr b 0 l := skel_spoilt.all HS.out hex 0 l rfl hsa
        obtain ⟨⟨⟨q0, c0⟩, hc⟩, hsk⟩ := skelAt_get l 0 k hsa' hkl
        rw [Nat.zero_add] at c0 hc
        have hs3 := size_arg hkl
        have hbw : b < w.heap.size := exBlock_lt hex
        have hfz := exBlock_free (j := k * 6) hex'
        have hblt := exBlock_lt hex'
        have CC := HIH.out l[k] q0 lo hi (by have := HM.out; omega) (by have := HG.out; omega) wr hsk (inRs_get HIns.out k hkl) (Nat.le_trans HHi.out HBI.out.size)
        generalize l[k] = y at *
        obtain ⟨kd1, pl1, nm1, it1, dn1, a1, cap1, ll1⟩ := y
        have c1 : wr.cell? ⟨b, k * 6 + 1, none⟩ = some (.int .i64 pl1) := hc 1 (by omega) (by omega)
        have c2 : wr.cell? ⟨b, k * 6 + 2, none⟩ = some (.string nm1) := hc 2 (by omega) (by omega)
        have c3 : wr.cell? ⟨b, k * 6 + 3, none⟩ = some (.int .i64 it1) := hc 3 (by omega) (by omega)
        have c4 : wr.cell? ⟨b, k * 6 + 4, none⟩ = some (.int .i64 dn1) := hc 4 (by omega) (by omega)
        have c5 : wr.cell? ⟨b, k * 6 + 5, none⟩ = some (.slice a1 ll1.length cap1) := hc 5 (by omega) (by omega)
        simp only at CC
        clear hc hsa hsa' hsk
        go_wp2_with fail
        refine CC.mono ?_
        rintro r w2 ⟨rfl, hs2, hb2⟩
        have hnb : ¬ (lo ≤ w.heap.size ∧ w.heap.size < hi) := by have := HHi.out; omega
        have hbox2 : w2.cell? ⟨w.heap.size, 5, none⟩ = some (.slice (some ⟨b, 0, none⟩) n cap) := (hb2.cell hsz hnb).trans hbox
        have hsz2 : w.heap.size < w2.heap.size := Nat.lt_of_lt_of_le hsz hb2.size
        have hex2 := hs2.blk b hex'
        have hfz2 := exBlock_free (j := k * 6) hex2
        have hblt2 := exBlock_lt hex2
        have hk2 : ∃ q, w2.cell? ⟨b, k * 6, none⟩ = some (.int .u8 q) := by
          rcases hs2.cell b (k * 6) hex' with h | h
          · exact ⟨q0, h.trans c0⟩
          · exact ⟨99, h.2⟩
        have HS2 : Hid (Spoilt w (w2.setCell ⟨b, k * 6, none⟩ (.int .u8 99))) := (HS.out.trans hs2).trans (spoilt_kind (by omega) hk2)
        have HB2 : Hid (ButIn lo hi w (w2.setCell ⟨b, k * 6, none⟩ (.int .u8 99))) := (HBI.out.trans hb2).trans (butIn_set l1 l2 _)
        obtain ⟨q, ck⟩ := hk2
        have hne1 : w.heap.size ≠ b := by omega
        have hne2 : b ≠ w.heap.size := by omega
        clear CC hs2 hb2 c0 c1 c2 c3 c4 c5 hbox HS HBI hex' hfz hex2 hex
        go_wp2_with fail
        go_roundw
        case rel => exact ⟨k + 1, by omega, by go_num, by rw [World.cell?_setCell_other _ _ _ _ (by simp only [ne_eq, Addr.mk.injEq, and_true]; omega)]; exact hbox2, by simpa using hsz2, HS2, HB2⟩
        case measure => simp [intOf]; omega
      · obtain rfl : k = n := by omega
        go_wp2_with fail
        go_end0
        exact ⟨rfl, HS.out, HBI.out⟩
end Go.Proofs.YthbjagmlcemefaaDoor
/- The document's Places: two trees that are the same, places too, are told so. -/
namespace Go.Proofs.YthbjagmlcemefaaDoor
open Go.RowKit
open Ex.size Ex.depth Ex.lies Ex.bulk Ex.good Ex.same Ex.like
attribute [local go_sem] later_size later_cell later_frozen later_setCell later_drew later_drewN later_tape drewN_setCell drewN_alloc drewN_later later_later lt_more lt_more1 lt_more2 lt_more3 lt_more4 lk0_0_1 lk1_0_1 lk2_0_1 lk0_0_2 lk1_0_2 lk2_0_2 lk0_1_2 lk0_0_3 lk1_0_3 lk2_0_3 lk0_1_3 lk0_2_3 lk0_0_4 lk1_0_4 lk2_0_4 lk0_1_4 lk0_2_4 lk0_3_4 lk0_0_5 lk1_0_5 lk2_0_5 lk0_1_5 lk0_2_5 lk0_3_5 lk0_4_5 lk0_0_6 lk1_0_6 lk2_0_6 lk0_1_6 lk0_2_6 lk0_3_6 lk0_4_6 lk0_5_6 lk0_0_7 lk1_0_7 lk2_0_7 lk0_1_7 lk0_2_7 lk0_3_7 lk0_4_7 lk0_5_7 lk0_6_7
set_option maxRecDepth 100000 in
set_option maxHeartbeats 3200000 in
theorem places_calls (m : Nat) : ∀ (e e' : Ex), e.size ≤ m → e.size ≤ 1048576 → e.like e' → ∀ w, e.lies w → e'.lies w → Calls Tryd.prog 21 #[e.val, e'.val] w fun x w' => x = .returned (.bool true) ∧ Below w.heap.size w w' := by
  induction m with
  | zero => intro e _ h; have := size_pos e; omega
  | succ m ih =>
    intro e e' hm hbig hlike w hl hl'
    have hbig' : e'.size ≤ 1048576 := by rw [← like_size hlike]; exact hbig
    have CS : Hid (∀ W, Below w.heap.size w W → Calls Tryd.prog 17 #[e.val, e'.val] W fun x w' => x = .returned (.bool true) ∧ Below W.heap.size W w') := fun W hW => by
      have := same_ex e.size e e' (Nat.le_refl _) hbig hbig' W (lies_below hW _ hl) (lies_below hW _ hl')
      rw [like_same hlike] at this
      exact this
    obtain ⟨kd, pl, nm, it, dn, a, cap, l⟩ := e
    obtain ⟨kd', pl', nm', it', dn', a', cap', l'⟩ := e'
    obtain ⟨⟨rfl, rfl, rfl, rfl, rfl⟩, hlk⟩ := hlike
    obtain ⟨b, o, hla, hlie⟩ := hl
    obtain ⟨b', o', hla', hlie'⟩ := hl'
    have hll := likes_len hlk
    obtain ⟨n, hn⟩ : ∃ n, n = l.length := ⟨_, rfl⟩
    have hn' : n = l'.length := by rw [hn, hll]
    have HM : Hid (1 + sizes l ≤ m + 1) := hm
    have HG : Hid (1 + sizes l ≤ 1048576) := hbig
    have hnb : n ≤ 1048576 := by have h1 := len_sizes l; have := HG.out; omega
    simp only [Ex.val, Ex.cells, List.toArray] at CS ⊢
    rw [← hn, ← hn'] at CS ⊢
    have HN : Hid (n = l.length) := hn
    have HN' : Hid (n = l'.length) := hn'
    have HLk : Hid _ := hlk
    have HLA : Hid _ := hla
    have HLie : Hid _ := hlie
    have HLA' : Hid _ := hla'
    have HLie' : Hid _ := hlie'
    have HIH : Hid _ := ih
    clear hn hla hlie ih hn' hla' hlie' hlk hm hbig hbig' hll
    have AB : Hid (Below w.heap.size w ((w.alloc (.cells #[.int .u8 kd, .int .i64 pl, .string nm, .int .i64 it, .int .i64 dn, .slice a n cap] 33)).alloc (.cells #[.int .u8 kd, .int .i64 pl, .string nm, .int .i64 it, .int .i64 dn, .slice a' n cap'] 33))) := ((Below.refl _ _).alloc (Nat.le_refl _) _).alloc (by simp) _
    have CS1 := CS.out _ AB.out
    clear CS
    go_enter Tryd.func21, Tryd.ntmps21
    go_wp2_with fail
    refine CS1.mono ?_
    rintro x w1 ⟨rfl, hb1⟩
    have HB1 : Hid (Below w.heap.size w w1) := AB.out.trans (hb1.mono (by simp; omega))
    have hbx : w1.cell? ⟨w.heap.size, 5, none⟩ = some (.slice a n cap) := (hb1.cell (p := ⟨w.heap.size, 5, none⟩) (by simp; omega)).trans (by simp)
    have hbx' : w1.cell? ⟨w.heap.size + 1, 5, none⟩ = some (.slice a' n cap') := (hb1.cell (p := ⟨w.heap.size + 1, 5, none⟩) (by simp)).trans (by simp)
    have hs1 : w.heap.size + 1 < w1.heap.size := by have := hb1.size; simp at this; omega
    clear hb1 CS1 AB
    go_wp2_with fail
    go_loopw [5] (fun i wr => ∃ k : Nat, k ≤ n ∧ i = .int .i64 k ∧ wr.cell? ⟨w.heap.size, 5, none⟩ = some (.slice a n cap) ∧ wr.cell? ⟨w.heap.size + 1, 5, none⟩ = some (.slice a' n cap') ∧ w.heap.size + 1 < wr.heap.size ∧ Hid (Below w.heap.size w wr)) (fun i _ => n - (intOf i).toNat)
    case atStart => exact ⟨0, by omega, rfl, hbx, hbx', hs1, HB1⟩
    case round =>
      clear hbx hbx' hs1 HB1
      obtain ⟨k, hk, rfl, hbox, hbox', hsz, HB⟩ := hrel
      by_cases hlt : k < n
      · have hkl : k < l.length := by rw [← HN.out]; exact hlt
        have hkl' : k < l'.length := by rw [← HN'.out]; exact hlt
        obtain rfl := HLA.out (by intro h; rw [h] at hkl; simp at hkl)
        obtain rfl := HLA'.out (by intro h; rw [h] at hkl'; simp at hkl')
        obtain ⟨hc, hli⟩ := lieAt_get l o k HLie.out hkl
        obtain ⟨hc', hli'⟩ := lieAt_get l' o' k HLie'.out hkl'
        have hs3 := size_arg hkl
        have hblk : b < w.heap.size := by
          have h0 := hc 0 (by omega)
          cases hx : l[k]
          rw [hx] at h0
          exact World.block_lt_of_cell? w ⟨b, _, none⟩ h0
        have hblk' : b' < w.heap.size := by
          have h0 := hc' 0 (by omega)
          cases hx : l'[k]
          rw [hx] at h0
          exact World.block_lt_of_cell? w ⟨b', _, none⟩ h0
        have hcr : ∀ j, j < 6 → wr.cell? ⟨b, o + k * 6 + j, none⟩ = l[k].cells[j]? := fun j hj => (HB.out.cell (p := ⟨b, o + k * 6 + j, none⟩) hblk).trans (hc j hj)
        have hcr' : ∀ j, j < 6 → wr.cell? ⟨b', o' + k * 6 + j, none⟩ = l'[k].cells[j]? := fun j hj => (HB.out.cell (p := ⟨b', o' + k * 6 + j, none⟩) hblk').trans (hc' j hj)
        have CC := fun W (hW : Below w.heap.size w W) => HIH.out l[k] l'[k] (by have := HM.out; omega) (by have := HG.out; omega) (likes_get HLk.out k hkl hkl') W (lies_below hW _ hli) (lies_below hW _ hli')
        generalize l[k] = y at hcr CC
        generalize l'[k] = y' at hcr' CC
        obtain ⟨kd1, pl1, nm1, it1, dn1, a1, cap1, l1⟩ := y
        obtain ⟨kd2, pl2, nm2, it2, dn2, a2, cap2, l2⟩ := y'
        have c0 : wr.cell? ⟨b, o + k * 6, none⟩ = some (.int .u8 kd1) := hcr 0 (by omega)
        have c1 : wr.cell? ⟨b, o + k * 6 + 1, none⟩ = some (.int .i64 pl1) := hcr 1 (by omega)
        have c2 : wr.cell? ⟨b, o + k * 6 + 2, none⟩ = some (.string nm1) := hcr 2 (by omega)
        have c3 : wr.cell? ⟨b, o + k * 6 + 3, none⟩ = some (.int .i64 it1) := hcr 3 (by omega)
        have c4 : wr.cell? ⟨b, o + k * 6 + 4, none⟩ = some (.int .i64 dn1) := hcr 4 (by omega)
        have c5 : wr.cell? ⟨b, o + k * 6 + 5, none⟩ = some (.slice a1 l1.length cap1) := hcr 5 (by omega)
        have d0 : wr.cell? ⟨b', o' + k * 6, none⟩ = some (.int .u8 kd2) := hcr' 0 (by omega)
        have d1 : wr.cell? ⟨b', o' + k * 6 + 1, none⟩ = some (.int .i64 pl2) := hcr' 1 (by omega)
        have d2 : wr.cell? ⟨b', o' + k * 6 + 2, none⟩ = some (.string nm2) := hcr' 2 (by omega)
        have d3 : wr.cell? ⟨b', o' + k * 6 + 3, none⟩ = some (.int .i64 it2) := hcr' 3 (by omega)
        have d4 : wr.cell? ⟨b', o' + k * 6 + 4, none⟩ = some (.int .i64 dn2) := hcr' 4 (by omega)
        have d5 : wr.cell? ⟨b', o' + k * 6 + 5, none⟩ = some (.slice a2 l2.length cap2) := hcr' 5 (by omega)
        simp only [Ex.val, Ex.cells, List.toArray] at CC
        clear hc hcr hli hs3 hkl hc' hcr' hli' hkl'
        have i0 : (0 : Int) ≤ (k : Int) := by omega
        have i1 : (k : Int) < (n : Int) := by omega
        have hb0 : b < wr.heap.size := by have := HB.out.size; omega
        have hb0' : b' < wr.heap.size := by have := HB.out.size; omega
        have hb1 : w.heap.size < wr.heap.size := by omega
        have HBd : Hid (Below w.heap.size w wr.drew) := Below.drew HB.out
        go_wp2_with fail
        go_region_held3 (fun w' => w'.cell? ⟨w.heap.size, 5, none⟩ = some (.slice (some ⟨b, o, none⟩) n cap) ∧ w'.cell? ⟨w.heap.size + 1, 5, none⟩ = some (.slice (some ⟨b', o', none⟩) n cap') ∧ w'.cell? ⟨b, o + k * 6, none⟩ = some (.int .u8 kd1) ∧ w'.cell? ⟨b, o + k * 6 + 1, none⟩ = some (.int .i64 pl1) ∧ w'.cell? ⟨b, o + k * 6 + 2, none⟩ = some (.string nm1) ∧ w'.cell? ⟨b, o + k * 6 + 3, none⟩ = some (.int .i64 it1) ∧ w'.cell? ⟨b, o + k * 6 + 4, none⟩ = some (.int .i64 dn1) ∧ w'.cell? ⟨b, o + k * 6 + 5, none⟩ = some (.slice a1 l1.length cap1) ∧ w'.cell? ⟨b', o' + k * 6, none⟩ = some (.int .u8 kd2) ∧ w'.cell? ⟨b', o' + k * 6 + 1, none⟩ = some (.int .i64 pl2) ∧ w'.cell? ⟨b', o' + k * 6 + 2, none⟩ = some (.string nm2) ∧ w'.cell? ⟨b', o' + k * 6 + 3, none⟩ = some (.int .i64 it2) ∧ w'.cell? ⟨b', o' + k * 6 + 4, none⟩ = some (.int .i64 dn2) ∧ w'.cell? ⟨b', o' + k * 6 + 5, none⟩ = some (.slice a2 l2.length cap2)) (go_simp) (first | (go_at_call 21; refine (CC _ HBd.out).mono ?_; rintro r w2 ⟨rfl, hb2⟩; have hold : ∀ b o, b < wr.heap.size → w2.cell? ⟨b, o, none⟩ = wr.cell? ⟨b, o, none⟩ := fun b o h => hb2.cell (p := ⟨b, o, none⟩) h))
        have HB2 : Hid (Below w.heap.size w w2) := HBd.out.trans (hb2.mono (by show w.heap.size ≤ wr.heap.size; omega))
        have hbox2 : w2.cell? ⟨w.heap.size, 5, none⟩ = some (.slice (some ⟨b, o, none⟩) n cap) := (hb2.cell (p := ⟨w.heap.size, 5, none⟩) hb1).trans hbox
        have hbox3 : w2.cell? ⟨w.heap.size + 1, 5, none⟩ = some (.slice (some ⟨b', o', none⟩) n cap') := (hb2.cell (p := ⟨w.heap.size + 1, 5, none⟩) hsz).trans hbox'
        have hsz2 : w.heap.size + 1 < w2.heap.size := by
          have : wr.heap.size ≤ w2.heap.size := hb2.size
          omega
        clear hb2 hold CC c0 c1 c2 c3 c4 c5 d0 d1 d2 d3 d4 d5 hbox hbox' hsz HB hb0 hb0' hb1 HBd
        go_wp2_with fail
        go_roundw
        case rel => exact ⟨k + 1, by omega, by go_num, hbox2, hbox3, hsz2, HB2⟩
        case measure => simp [intOf]; omega
      · go_wp2_with fail
        go_ret
        exact ⟨rfl, HB.out⟩
end Go.Proofs.YthbjagmlcemefaaDoor
/- The document's Copy: a copy, places too, in blocks of its own. -/
namespace Go.Proofs.YthbjagmlcemefaaDoor
open Go.RowKit
open Ex.size Ex.depth Ex.lies Ex.bulk Ex.good Ex.like Ex.inR
attribute [local go_sem] later_size later_cell later_frozen later_setCell later_drew later_drewN later_tape drewN_setCell drewN_alloc drewN_later later_later lt_more lt_more1 lt_more2 lt_more3 lt_more4 lk0_0_1 lk1_0_1 lk2_0_1 lk0_0_2 lk1_0_2 lk2_0_2 lk0_1_2 lk0_0_3 lk1_0_3 lk2_0_3 lk0_1_3 lk0_2_3 lk0_0_4 lk1_0_4 lk2_0_4 lk0_1_4 lk0_2_4 lk0_3_4 lk0_0_5 lk1_0_5 lk2_0_5 lk0_1_5 lk0_2_5 lk0_3_5 lk0_4_5 lk0_0_6 lk1_0_6 lk2_0_6 lk0_1_6 lk0_2_6 lk0_3_6 lk0_4_6 lk0_5_6 lk0_0_7 lk1_0_7 lk2_0_7 lk0_1_7 lk0_2_7 lk0_3_7 lk0_4_7 lk0_5_7 lk0_6_7
/-- All blocks of Args are such. -/
def Ex.inP (P : Nat → Prop) : Ex → Prop
  | .mk _ _ _ _ _ a _ l => (l ≠ [] → ∃ b o, a = some ⟨b, o, none⟩ ∧ P b) ∧ inPs l
where inPs : List Ex → Prop
  | [] => True
  | e :: r => e.inP P ∧ inPs r
open Ex.inP
theorem inP_imp {P Q : Nat → Prop} (h : ∀ b, P b → Q b) : ∀ {e : Ex}, e.inP P → e.inP Q
  | .mk _ _ _ _ _ _ _ _, ⟨g, hl⟩ => ⟨fun hne => by obtain ⟨b, o, e, p⟩ := g hne; exact ⟨b, o, e, h b p⟩, all hl⟩
where all : ∀ {l : List Ex}, inPs P l → inPs Q l
  | [], _ => trivial
  | _ :: _, g => ⟨inP_imp h g.1, all g.2⟩
theorem inP_inR {P : Nat → Prop} {lo hi : Nat} (h : ∀ b, P b → lo ≤ b ∧ b < hi) : ∀ {e : Ex}, e.inP P → e.inR lo hi
  | .mk _ _ _ _ _ _ _ _, ⟨g, hl⟩ => ⟨fun hne => by obtain ⟨b, o, e, p⟩ := g hne; exact ⟨b, o, e, h b p⟩, all hl⟩
where all : ∀ {l : List Ex}, inPs P l → inRs lo hi l
  | [], _ => trivial
  | _ :: _, g => ⟨inP_inR h g.1, all g.2⟩
theorem inR_inP {P : Nat → Prop} {lo hi : Nat} (h : ∀ b, lo ≤ b → b < hi → P b) : ∀ {e : Ex}, e.inR lo hi → e.inP P
  | .mk _ _ _ _ _ _ _ _, ⟨g, hl⟩ => ⟨fun hne => by obtain ⟨b, o, e, p1, p2⟩ := g hne; exact ⟨b, o, e, h b p1 p2⟩, all hl⟩
where all : ∀ {l : List Ex}, inRs lo hi l → inPs P l
  | [], _ => trivial
  | _ :: _, g => ⟨inR_inP h g.1, all g.2⟩
theorem lies_inP {P : Nat → Prop} {w w' : World} (hw : ∀ b, P b → w'.heap[b]? = w.heap[b]?) : ∀ {e : Ex}, e.inP P → e.lies w → e.lies w'
  | .mk _ _ _ _ _ a _ l, ⟨h, hl⟩, ⟨b, o, h1, h2⟩ => by
    by_cases hne : l = []
    · subst hne
      exact ⟨b, o, h1, trivial⟩
    · obtain ⟨b', o', e', l1⟩ := h hne
      have e2 := (h1 hne).symm.trans e'
      have e3 : b = b' := by injection e2 with e2; injection e2
      subst e3
      exact ⟨b, o, h1, all (hw b l1) hl h2⟩
where all {b : Nat} (hb : w'.heap[b]? = w.heap[b]?) : ∀ {o : Nat} {l : List Ex}, inPs P l → lieAt w b o l → lieAt w' b o l
  | _, [], _, _ => trivial
  | _, _ :: _, h, ⟨g1, g2, g3⟩ => ⟨fun j hj => (World.cell?_of_block hb).trans (g1 j hj), lies_inP hw h.1 g2, all hb h.2 g3⟩
def exFlat : List Ex → List Value
  | [] => []
  | e :: r => e.cells ++ exFlat r
theorem exFlat_len (l : List Ex) : (exFlat l).length = l.length * 6 := by
  induction l with
  | nil => rfl
  | cons e r ih => simp only [exFlat, List.length_append, cells_len, List.length_cons, ih]; omega
theorem exFlat_app (a b : List Ex) : exFlat (a ++ b) = exFlat a ++ exFlat b := by
  induction a with
  | nil => rfl
  | cons e r ih => simp only [List.cons_append, exFlat, ih, List.append_assoc]
theorem exFlat_get (l : List Ex) (i : Nat) (h : i < l.length) (j : Nat) (hj : j < 6) : (exFlat l)[i * 6 + j]? = l[i].cells[j]? := by
  induction l generalizing i with
  | nil => simp at h
  | cons q r ih =>
    have hq := cells_len q
    cases i with
    | zero => simp only [exFlat, Nat.zero_mul, Nat.zero_add, List.getElem_cons_zero]; rw [List.getElem?_append_left (by omega)]
    | succ i =>
      have := ih i (by simpa using h)
      simp only [exFlat, List.getElem_cons_succ]
      rw [List.getElem?_append_right (by omega), hq, show (i + 1) * 6 + j - 6 = i * 6 + j by omega]
      exact this
theorem lieAt_of {w : World} {b : Nat} : ∀ (l : List Ex) (o : Nat), (∀ i (h : i < l.length), (∀ j, j < 6 → w.cell? ⟨b, o + i * 6 + j, none⟩ = l[i].cells[j]?) ∧ l[i].lies w) → lieAt w b o l
  | [], _, _ => trivial
  | e :: r, o, h => by
    have h0 := h 0 (by simp)
    simp only [Nat.zero_mul, Nat.add_zero, List.getElem_cons_zero] at h0
    refine ⟨h0.1, h0.2, lieAt_of r (o + 6) fun i hi => ?_⟩
    have := h (i + 1) (by simpa using hi)
    simp only [List.getElem_cons_succ] at this
    rw [show o + 6 + i * 6 = o + (i + 1) * 6 by omega]
    exact this
theorem likes_of : ∀ (l l' : List Ex), l.length = l'.length → (∀ i (h : i < l.length) (h' : i < l'.length), l[i].like l'[i]) → likes l l'
  | [], [], _, _ => trivial
  | _ :: r, _ :: r', hl, h => ⟨h 0 (by simp) (by simp), likes_of r r' (by simpa using hl) fun i h1 h2 => h (i + 1) (by simpa using h1) (by simpa using h2)⟩
theorem inRs_of {lo hi : Nat} : ∀ (l : List Ex), (∀ i (h : i < l.length), l[i].inR lo hi) → inRs lo hi l
  | [], _ => trivial
  | _ :: r, h => ⟨h 0 (by simp), inRs_of r fun i hi => h (i + 1) (by simpa using hi)⟩
/-- So much is copied. -/
structure RefCp (W0 : World) (B : Nat) (l : List Ex) (k : Nat) (v : Value) (ys : List Ex) (wr : World) : Prop where
  below : Below B W0 wr
  sz : B ≤ wr.heap.size
  len : ys.length = k
  own : wr.ownsRow B 33 6 v k (exFlat ys)
  all : ∀ i (h : i < ys.length) (h' : i < l.length), ys[i].lies wr ∧ ys[i].like l[i] ∧ ys[i].inP (fun b => B ≤ b ∧ b < wr.heap.size ∧ some b ≠ v.ownBlock)
/-- A copy of the document's. -/
structure KeepOf (w w' : World) (c e : Ex) : Prop where
  lies : c.lies w'
  like : c.like e
  inR : c.inR w.heap.size w'.heap.size
  below : Below w.heap.size w w'
theorem refCp_more {W0 wr w2 w3 : World} {B : Nat} {l : List Ex} {k : Nat} {v : Value} {ys : List Ex} {y : Ex} {o : Obj} (h : RefCp W0 B l k v ys wr) (hk : k < l.length) (hy : KeepOf wr w2 y l[k]) (g cap : Nat) (hown : w3.ownsRow B 33 6 (.slice (some ⟨g, 0, none⟩) (k + 1) cap) (k + 1) (exFlat ys ++ y.cells)) (hgr : (w2.alloc o).grownBy w3 v.ownBlock) (hat : v.ownBlock = some g ∨ g = (w2.alloc o).heap.size) : RefCp W0 B l (k + 1) (.slice (some ⟨g, 0, none⟩) (k + 1) cap) (ys ++ [y]) w3 := by
  have hz : (w2.alloc o).heap.size = w2.heap.size + 1 := by simp
  have hsz := h.sz
  have hs2 := hy.below.size
  have hs3 := hgr.size
  have hvo : ∀ b, v.ownBlock = some b → B ≤ b ∧ b < wr.heap.size := fun b hb => h.own.lt b hb
  have same2 : ∀ b, b < w2.heap.size → some b ≠ v.ownBlock → w3.heap[b]? = w2.heap[b]? := fun b hb hne => (hgr.block b (by omega) hne).trans (Below.heap_alloc _ _ _ hb)
  have hg : ∀ b, b < w2.heap.size → some b ≠ v.ownBlock → some b ≠ (Value.slice (some ⟨g, 0, none⟩) (k + 1) cap).ownBlock := fun b hb hne e => by
    have e' : b = g := Option.some.inj e
    rcases hat with h1 | h1
    · exact hne (by rw [h1, e'])
    · omega
  have hl := h.len
  refine ⟨?_, by omega, by simp [hl], ?_, fun i hi hi' => ?_⟩
  · have h1 : Below B W0 w2 := h.below.trans (hy.below.mono hsz)
    exact (h1.alloc (by omega) o).grown hgr (by omega) fun b hb => (hvo b hb).1
  · rw [exFlat_app]
    simpa [exFlat] using hown
  · by_cases hik : i < ys.length
    · rw [List.getElem_append_left hik]
      obtain ⟨h1, h2, h3⟩ := h.all i hik hi'
      refine ⟨?_, h2, inP_imp (fun b hb => ⟨hb.1, by omega, hg b (by omega) hb.2.2⟩) h3⟩
      exact lies_inP (fun b hb => (same2 b (by omega) hb.2.2).trans (hy.below.block b hb.2.1)) h3 h1
    · simp only [List.length_append, List.length_cons, List.length_nil] at hi
      obtain rfl : i = k := by omega
      have e1 : (ys ++ [y])[i] = y := by rw [List.getElem_append_right (by omega)]; simp [hl]
      rw [e1]
      have h3 : y.inP (fun b => wr.heap.size ≤ b ∧ b < w2.heap.size) := inR_inP (fun b h1 h2 => ⟨h1, h2⟩) hy.inR
      have hne : ∀ b, wr.heap.size ≤ b → some b ≠ v.ownBlock := fun b hb e => by have := (hvo b e.symm).2; omega
      refine ⟨lies_inP (fun b hb => same2 b hb.2 (hne b hb.1)) h3 hy.lies, hy.like, inP_imp (fun b hb => ⟨by omega, by omega, hg b hb.2 (hne b hb.1)⟩) h3⟩
theorem refCp_done {w W0 wr : World} {kd pl it dn : Int} {nm : ByteArray} {ad : Option Addr} {cap cap' : Nat} {a' : Option Addr} {l ys : List Ex} (hW : Below w.heap.size w W0) (hs : w.heap.size ≤ W0.heap.size) (h : RefCp W0 W0.heap.size l l.length (.slice a' l.length cap') ys wr) : ys.length = l.length ∧ KeepOf w wr (.mk kd pl nm it dn a' cap' ys) (.mk kd pl nm it dn ad cap l) := by
  have hl := h.len
  refine ⟨hl, ?_, ⟨⟨rfl, rfl, rfl, rfl, rfl⟩, likes_of ys l hl fun i h1 h2 => (h.all i h1 h2).2.1⟩, ⟨fun hne => ?_, inRs_of ys fun i hi => inP_inR (fun b hb => ⟨by omega, hb.2.1⟩) (h.all i hi (by omega)).2.2⟩, hW.trans (h.below.mono hs)⟩
  · rcases h.own.2 with ⟨h1, h2⟩ | ⟨g, cap2, cur, h1, h2, h3, _⟩
    · exact ⟨0, 0, fun hne => absurd (List.eq_nil_of_length_eq_zero (by omega)) hne, by rw [List.eq_nil_of_length_eq_zero (show ys.length = 0 by omega)]; trivial⟩
    · simp only [Value.slice.injEq, true_and] at h1
      obtain ⟨rfl, rfl⟩ := h1
      refine ⟨g, 0, fun _ => rfl, lieAt_of ys 0 fun i hi => ⟨fun j hj => ?_, (h.all i hi (by omega)).1⟩⟩
      rw [Nat.zero_add, h.own.cellAt _ (by omega)]
      exact exFlat_get ys i hi j hj
  · rcases h.own.2 with ⟨h1, h2⟩ | ⟨g, cap2, cur, h1, h2, h3, _⟩
    · exact absurd (List.eq_nil_of_length_eq_zero (by omega)) hne
    · simp only [Value.slice.injEq, true_and] at h1
      obtain ⟨rfl, rfl⟩ := h1
      exact ⟨g, 0, rfl, by omega, lt_of_block h3⟩
theorem ex_one (e : Ex) : ∀ u ∈ e.cells, u.oneCell' = true := by
  obtain ⟨kd, pl, nm, it, dn, a, c, l⟩ := e
  intro u hu
  simp only [Ex.cells, List.mem_cons, List.not_mem_nil, or_false] at hu
  rcases hu with rfl | rfl | rfl | rfl | rfl | rfl <;> rfl
theorem news_ex (w : World) (e : Ex) (t : TypeId) : ∀ j u, e.cells[j]? = some u → (w.alloc (.cells e.cells.toArray t)).cell? ((⟨w.heap.size, 0, none⟩ : Addr).add j) = some u := fun j u hj => by
  rw [← hj]
  have : (⟨w.heap.size, 0, none⟩ : Addr).add j = ⟨w.heap.size, j, none⟩ := by unfold Addr.add; split <;> simp_all
  rw [this]
  exact cell_alloc_eq rfl
set_option maxRecDepth 100000 in
set_option maxHeartbeats 3200000 in
theorem refCopy_calls (m : Nat) : ∀ (e : Ex), e.size ≤ m → e.size ≤ 1048576 → ∀ w, e.lies w → Calls Tryd.prog 20 #[e.val] w fun x w' => ∃ c : Ex, x = .returned c.val ∧ KeepOf w w' c e := by
  induction m with
  | zero => intro e h; have := size_pos e; omega
  | succ m ih =>
    rintro ⟨kd, pl, nm, it, dn, a, cap, l⟩ hm hbig w ⟨b, o, hla, hlie⟩
    obtain ⟨i0, hi, hz0', hz1, hz2⟩ := info_parts Tryd.infoMadeExpr
    obtain ⟨n, hn⟩ : ∃ n, n = l.length := ⟨_, rfl⟩
    have HM : Hid (1 + sizes l ≤ m + 1) := hm
    have HG : Hid (1 + sizes l ≤ 1048576) := hbig
    have hnb : n ≤ 1048576 := by have h1 := len_le_sizes l; have := HG.out; omega
    simp only [Ex.val, Ex.cells, List.toArray]
    rw [← hn]
    obtain ⟨W0, hW0⟩ : ∃ W0 : World, W0 = (w.alloc (.cells #[.int .u8 kd, .int .i64 pl, .string nm, .int .i64 it, .int .i64 dn, .slice a n cap] 33)).alloc (.cells #[.int .u8 0, .int .i64 0, .string ⟨#[]⟩, .int .i64 0, .int .i64 0, .slice none 0 0] 33) := ⟨_, rfl⟩
    have hs0 : W0.heap.size = w.heap.size + 2 := by rw [hW0]; simp
    have HB0 : Hid (Below w.heap.size w W0) := by rw [Hid, hW0]; exact ((Below.refl _ _).alloc (Nat.le_refl _) _).alloc (by simp) _
    have x0 : W0.cell? ⟨w.heap.size, 0, none⟩ = some (.int .u8 kd) := by rw [hW0]; simp
    have x1 : W0.cell? ⟨w.heap.size, 1, none⟩ = some (.int .i64 pl) := by rw [hW0]; simp
    have x2 : W0.cell? ⟨w.heap.size, 2, none⟩ = some (.string nm) := by rw [hW0]; simp
    have x3 : W0.cell? ⟨w.heap.size, 3, none⟩ = some (.int .i64 it) := by rw [hW0]; simp
    have x4 : W0.cell? ⟨w.heap.size, 4, none⟩ = some (.int .i64 dn) := by rw [hW0]; simp
    have x5 : W0.cell? ⟨w.heap.size, 5, none⟩ = some (.slice a n cap) := by rw [hW0]; simp
    have y0 : W0.cell? ⟨w.heap.size + 1, 0, none⟩ = some (.int .u8 0) := by rw [hW0]; simp
    have y1 : W0.cell? ⟨w.heap.size + 1, 1, none⟩ = some (.int .i64 0) := by rw [hW0]; simp
    have y2 : W0.cell? ⟨w.heap.size + 1, 2, none⟩ = some (.string ⟨#[]⟩) := by rw [hW0]; simp
    have y3 : W0.cell? ⟨w.heap.size + 1, 3, none⟩ = some (.int .i64 0) := by rw [hW0]; simp
    have y4 : W0.cell? ⟨w.heap.size + 1, 4, none⟩ = some (.int .i64 0) := by rw [hW0]; simp
    have y5 : W0.cell? ⟨w.heap.size + 1, 5, none⟩ = some (.slice none 0 0) := by rw [hW0]; simp
    have z0 : ∀ j, W0.frozen? ⟨w.heap.size, j, none⟩ = false := fun j => by rw [hW0]; simp
    have z1 : ∀ j, W0.frozen? ⟨w.heap.size + 1, j, none⟩ = false := fun j => by rw [hW0]; simp
    have HX : Hid (∀ wr, Below W0.heap.size W0 wr → (∀ j, wr.cell? ⟨w.heap.size, j, none⟩ = W0.cell? ⟨w.heap.size, j, none⟩) ∧ (∀ j, wr.cell? ⟨w.heap.size + 1, j, none⟩ = W0.cell? ⟨w.heap.size + 1, j, none⟩) ∧ (∀ j, wr.frozen? ⟨w.heap.size, j, none⟩ = false) ∧ ∀ j, wr.frozen? ⟨w.heap.size + 1, j, none⟩ = false) := fun wr hb => ⟨fun j => hb.cell (p := ⟨w.heap.size, j, none⟩) (by show w.heap.size < _; omega), fun j => hb.cell (p := ⟨w.heap.size + 1, j, none⟩) (by show w.heap.size + 1 < _; omega), fun j => (hb.frozen (p := ⟨w.heap.size, j, none⟩) (by show w.heap.size < _; omega)).trans (z0 j), fun j => (hb.frozen (p := ⟨w.heap.size + 1, j, none⟩) (by show w.heap.size + 1 < _; omega)).trans (z1 j)⟩
    have HC : Hid ((W0.cell? ⟨w.heap.size, 0, none⟩ = some (.int .u8 kd) ∧ W0.cell? ⟨w.heap.size, 1, none⟩ = some (.int .i64 pl) ∧ W0.cell? ⟨w.heap.size, 2, none⟩ = some (.string nm) ∧ W0.cell? ⟨w.heap.size, 3, none⟩ = some (.int .i64 it) ∧ W0.cell? ⟨w.heap.size, 4, none⟩ = some (.int .i64 dn) ∧ W0.cell? ⟨w.heap.size, 5, none⟩ = some (.slice a n cap)) ∧ (W0.cell? ⟨w.heap.size + 1, 0, none⟩ = some (.int .u8 0) ∧ W0.cell? ⟨w.heap.size + 1, 1, none⟩ = some (.int .i64 0) ∧ W0.cell? ⟨w.heap.size + 1, 2, none⟩ = some (.string ⟨#[]⟩) ∧ W0.cell? ⟨w.heap.size + 1, 3, none⟩ = some (.int .i64 0) ∧ W0.cell? ⟨w.heap.size + 1, 4, none⟩ = some (.int .i64 0) ∧ W0.cell? ⟨w.heap.size + 1, 5, none⟩ = some (.slice none 0 0))) := ⟨⟨x0, x1, x2, x3, x4, x5⟩, y0, y1, y2, y3, y4, y5⟩
    have HS0 : Hid (W0.heap.size = w.heap.size + 2) := hs0
    have HW0 : Hid (_ = W0) := hW0.symm
    have HN : Hid (n = l.length) := hn
    have HLA : Hid _ := hla
    have HLie : Hid _ := hlie
    have HIH : Hid _ := ih
    have HI : Hid _ := hi
    have HZ0 : Hid _ := hz0'
    have HZ1 : Hid _ := hz1
    have HZ2 : Hid _ := hz2
    clear hn hla hlie ih hm hbig hW0 hs0 x0 x1 x2 x3 x4 x5 y0 y1 y2 y3 y4 y5 z0 z1 hi hz0' hz1 hz2
    go_enter Tryd.func20, Tryd.ntmps20
    go_wp2_with fail
    rw [HW0.out]
    go_loopw [3, 4] (fun v i wr => ∃ (k : Nat) (ys : List Ex), k ≤ n ∧ i = .int .i64 k ∧ Hid (RefCp W0 W0.heap.size l k v ys wr)) (fun _ i _ => n - (intOf i).toNat)
    case atStart => exact ⟨0, [], by omega, rfl, Below.refl _ _, Nat.le_refl _, rfl, World.ownsRow_nil _ _ _ _, fun i h => by simp at h⟩
    case round =>
      obtain ⟨k, ys, hk, rfl, HR⟩ := hrel
      obtain ⟨hX0, hX1, hF0, hF1⟩ := HX.out wr HR.out.below
      have hws := HR.out.sz
      have hws1 : w.heap.size + 1 < wr.heap.size := by have := HS0.out; omega
      have hws0 : w.heap.size < wr.heap.size := by omega
      obtain ⟨va, vc, rfl⟩ : ∃ a c, u3 = .slice a k c := by
        rcases HR.out.own.2 with ⟨h1, h2⟩ | ⟨g, cap2, cur, h1, _⟩
        · exact ⟨none, 0, by rw [h1, h2]⟩
        · exact ⟨_, _, h1⟩
      have c5 := (hX0 5).trans HC.out.1.2.2.2.2.2
      by_cases hlt : k < n
      · have hkl : k < l.length := by rw [← HN.out]; exact hlt
        obtain rfl := HLA.out (by intro h; rw [h] at hkl; simp at hkl)
        obtain ⟨hc, hli⟩ := lieAt_get l o k HLie.out hkl
        have hs3 := size_arg hkl
        have hblk : b < w.heap.size := by
          have h0 := hc 0 (by omega)
          cases hx : l[k]
          rw [hx] at h0
          exact World.block_lt_of_cell? w ⟨b, _, none⟩ h0
        have hbr : Below w.heap.size w wr := HB0.out.trans (HR.out.below.mono (by have := HS0.out; omega))
        have hcr : ∀ j, j < 6 → wr.cell? ⟨b, o + k * 6 + j, none⟩ = l[k].cells[j]? := fun j hj => (hbr.cell (p := ⟨b, o + k * 6 + j, none⟩) hblk).trans (hc j hj)
        have CC := HIH.out l[k] (by have := HM.out; omega) (by have := HG.out; omega) wr (lies_below hbr _ hli)
        have HMore : Hid (∀ w2 y, KeepOf wr w2 y l[k] → ∀ (ob : Obj) w3 g cap, w3.ownsRow W0.heap.size 33 6 (.slice (some ⟨g, 0, none⟩) (k + 1) cap) (k + 1) (exFlat ys ++ y.cells) → (w2.alloc ob).grownBy w3 (Value.slice va k vc).ownBlock → ((Value.slice va k vc).ownBlock = some g ∨ g = (w2.alloc ob).heap.size) → RefCp W0 W0.heap.size l (k + 1) (.slice (some ⟨g, 0, none⟩) (k + 1) cap) (ys ++ [y]) w3) := fun w2 y hy ob w3 g cap h1 h2 h3 => refCp_more HR.out hkl hy g cap h1 h2 h3
        have HOwn : Hid (wr.ownsRow W0.heap.size 33 6 (.slice va k vc) k (exFlat ys)) := HR.out.own
        have HLen1 : Hid (k + 1 ≤ maxLen) := by unfold Hid maxLen; omega
        have HLen2 : Hid ((k + 1) * 72 ≤ 140737488355328) := by unfold Hid; omega
        generalize l[k] = y at *
        obtain ⟨kd1, pl1, nm1, it1, dn1, a1, cap1, ll1⟩ := y
        have c0 : wr.cell? ⟨b, o + k * 6, none⟩ = some (.int .u8 kd1) := hcr 0 (by omega)
        have c1 : wr.cell? ⟨b, o + k * 6 + 1, none⟩ = some (.int .i64 pl1) := hcr 1 (by omega)
        have c2 : wr.cell? ⟨b, o + k * 6 + 2, none⟩ = some (.string nm1) := hcr 2 (by omega)
        have c3 : wr.cell? ⟨b, o + k * 6 + 3, none⟩ = some (.int .i64 it1) := hcr 3 (by omega)
        have c4 : wr.cell? ⟨b, o + k * 6 + 4, none⟩ = some (.int .i64 dn1) := hcr 4 (by omega)
        have c6 : wr.cell? ⟨b, o + k * 6 + 5, none⟩ = some (.slice a1 ll1.length cap1) := hcr 5 (by omega)
        simp only [Ex.val, Ex.cells, List.toArray] at CC
        have hb0 : b < wr.heap.size := by omega
        clear hc hcr hli hs3 hkl hX0 hX1 hF0 hF1
        go_wp2_with fail
        refine CC.mono ?_
        rintro r w2 ⟨⟨kd2, pl2, nm2, it2, dn2, a2, cap2, ll2⟩, rfl, hko⟩
        have HKo : Hid _ := hko
        have HOwn2 : Hid ((w2.alloc (.cells #[.int .u8 kd2, .int .i64 pl2, .string nm2, .int .i64 it2, .int .i64 dn2, .slice a2 ll2.length cap2] 33)).ownsRow W0.heap.size 33 6 (.slice va k vc) k (exFlat ys)) := by
          have hb2 := hko.below
          have : w2.ownsRow W0.heap.size 33 6 (.slice va k vc) k (exFlat ys) := by
            refine ⟨HOwn.out.1, ?_⟩
            rcases HOwn.out.2 with g | ⟨g, cap, cur, e1, e2, e3, r⟩
            · exact .inl g
            · exact .inr ⟨g, cap, cur, e1, e2, (hb2.block g (lt_of_block e3)).trans e3, r⟩
          exact this.alloc _
        have hsz2 : W0.heap.size ≤ w2.heap.size := Nat.le_trans hws hko.below.size
        clear CC hko c0 c1 c2 c3 c4 c6 c5
        go_wp2_with (at_builtin; refine wpList_append_lies _ rfl _ _ 31 rfl W0.heap.size 33 i0 _ 6 72 Tryd.underlying31 HI.out HZ0.out HZ1.out HZ2.out rfl (by decide) _ _ _ rfl HOwn2.out ⟨w2.heap.size, 0, none⟩ 1 1 (Ex.cells ⟨kd2, pl2, nm2, it2, dn2, a2, cap2, ll2⟩) rfl rfl (news_ex w2 ⟨kd2, pl2, nm2, it2, dn2, a2, cap2, ll2⟩ _) (ex_one _) (by decide) HLen1.out HLen2.out (by simp; omega) _ rfl ?_; intro g3 cap3 w3 hown3 hgrow hat hlt3; have HOW : Hid _ := hown3; have HGR : Hid _ := hgrow; have HAT : Hid _ := hat; clear hown3 hgrow hat)
        go_roundw
        case rel => exact ⟨k + 1, _, by omega, by go_num, HMore.out _ _ HKo.out _ _ _ _ HOW.out HGR.out HAT.out⟩
        case measure => simp [intOf]; omega
      · obtain rfl : k = n := by omega
        have hX0' := hX0
        have d0 := (hX0 0).trans HC.out.1.1
        have d1 := (hX0 1).trans HC.out.1.2.1
        have d2 := (hX0 2).trans HC.out.1.2.2.1
        have d3 := (hX0 3).trans HC.out.1.2.2.2.1
        have d4 := (hX0 4).trans HC.out.1.2.2.2.2.1
        have e0 := (hX1 0).trans HC.out.2.1
        have e1 := (hX1 1).trans HC.out.2.2.1
        have e2 := (hX1 2).trans HC.out.2.2.2.1
        have e3 := (hX1 3).trans HC.out.2.2.2.2.1
        have e4 := (hX1 4).trans HC.out.2.2.2.2.2.1
        have e5 := (hX1 5).trans HC.out.2.2.2.2.2.2
        have HF : Hid (ys.length = l.length ∧ KeepOf W0 wr (.mk kd pl nm it dn va vc ys) (.mk kd pl nm it dn a cap l)) := by
          have hR := HR.out
          rw [HN.out] at hR
          exact refCp_done (Below.refl _ _) (Nat.le_refl _) hR
        have HYs : Hid (k = ys.length) := by have := HF.out.1; have := HN.out; unfold Hid; omega
        clear hX0 hX1 hX0'
        go_wp2_with fail
        refine bodyPost_ret (v := .agg #[.int .u8 kd, .int .i64 pl, .string nm, .int .i64 it, .int .i64 dn, .slice va k vc]) (by simp [results, Tryd.results20, go_sem, *]; try rfl) rfl ⟨.mk kd pl nm it dn va vc ys, ?_, ?_⟩
        · rw [HYs.out]
        · have hk2 := HF.out.2
          have hsame : ∀ x, W0.heap.size ≤ x → (((((((wr.setCell ⟨w.heap.size, 5, none⟩ (.slice va k vc)).setCell ⟨w.heap.size + 1, 0, none⟩ (.int .u8 kd)).setCell ⟨w.heap.size + 1, 1, none⟩ (.int .i64 pl)).setCell ⟨w.heap.size + 1, 2, none⟩ (.string nm)).setCell ⟨w.heap.size + 1, 3, none⟩ (.int .i64 it)).setCell ⟨w.heap.size + 1, 4, none⟩ (.int .i64 dn)).setCell ⟨w.heap.size + 1, 5, none⟩ (.slice va k vc)).heap[x]? = wr.heap[x]? := fun x hx => by
            have := HS0.out
            rw [Below.heap_setCell _ _ _ _ (show x ≠ w.heap.size + 1 by omega), Below.heap_setCell _ _ _ _ (show x ≠ w.heap.size + 1 by omega), Below.heap_setCell _ _ _ _ (show x ≠ w.heap.size + 1 by omega), Below.heap_setCell _ _ _ _ (show x ≠ w.heap.size + 1 by omega), Below.heap_setCell _ _ _ _ (show x ≠ w.heap.size + 1 by omega), Below.heap_setCell _ _ _ _ (show x ≠ w.heap.size + 1 by omega), Below.heap_setCell _ _ _ _ (show x ≠ w.heap.size by omega)]
          have hs0 := HS0.out
          refine ⟨lies_inR (lo := W0.heap.size) (hi := wr.heap.size) (fun x h1 _ => hsame x h1) hk2.inR hk2.lies, hk2.like, inR_mono (by omega) (by simp) hk2.inR, ?_⟩
          exact ((((((((HB0.out.trans (hk2.below.mono (by omega))).setCell (p := ⟨w.heap.size, 5, none⟩) (Nat.le_refl _) _).setCell (p := ⟨w.heap.size + 1, 0, none⟩) (Nat.le_succ _) _).setCell (p := ⟨w.heap.size + 1, 1, none⟩) (Nat.le_succ _) _).setCell (p := ⟨w.heap.size + 1, 2, none⟩) (Nat.le_succ _) _).setCell (p := ⟨w.heap.size + 1, 3, none⟩) (Nat.le_succ _) _).setCell (p := ⟨w.heap.size + 1, 4, none⟩) (Nat.le_succ _) _).setCell (p := ⟨w.heap.size + 1, 5, none⟩) (Nat.le_succ _) _)
end Go.Proofs.YthbjagmlcemefaaDoor
/- The program's copyParam, copyEq; copied at params, names, equations. -/
namespace Go.Proofs.YthbjagmlcemefaaDoor
open Go.RowKit
open Ex.size Ex.depth Ex.lies Ex.bulk Ex.good Ex.like Ex.inR Ex.skel
attribute [local go_sem] later_size later_cell later_frozen later_setCell later_drew later_drewN later_tape drewN_setCell drewN_alloc drewN_later later_later lt_more lt_more1 lt_more2 lt_more3 lt_more4 lk0_0_1 lk1_0_1 lk2_0_1 lk0_0_2 lk1_0_2 lk2_0_2 lk0_1_2 lk0_0_3 lk1_0_3 lk2_0_3 lk0_1_3 lk0_2_3 lk0_0_4 lk1_0_4 lk2_0_4 lk0_1_4 lk0_2_4 lk0_3_4 lk0_0_5 lk1_0_5 lk2_0_5 lk0_1_5 lk0_2_5 lk0_3_5 lk0_4_5 lk0_0_6 lk1_0_6 lk2_0_6 lk0_1_6 lk0_2_6 lk0_3_6 lk0_4_6 lk0_5_6 lk0_0_7 lk1_0_7 lk2_0_7 lk0_1_7 lk0_2_7 lk0_3_7 lk0_4_7 lk0_5_7 lk0_6_7
set_option maxRecDepth 100000 in
set_option maxHeartbeats 3200000 in
theorem copyParam_calls (x : Pm) (hs : x.nm.size ≤ 1048576) (w : World) : Calls Tryd.prog 71 #[x.val] w fun r w' => r = .returned x.val ∧ Below w.heap.size w w' := by
  obtain ⟨nm, ty, pl, rt, pd, st, du⟩ := x
  have CC : Hid (∀ w', Calls Tryd.prog 52 #[.string nm] w' fun e w'' => e = .returned (.string nm) ∧ Below w'.heap.size w' w'') := fun w' => clone_calls nm w' hs
  clear hs
  simp only [Pm.val, Pm.cells, List.toArray]
  go_enter Tryd.func71, Tryd.ntmps71
  go_wp2_with fail
  refine (CC.out _).mono ?_
  rintro r w2 ⟨rfl, hb⟩
  have hz : w.heap.size + 1 < w2.heap.size := by have := hb.size; simp at this; omega
  have hz0 : w.heap.size < w2.heap.size := by omega
  have HB : Hid (Below w.heap.size w w2) := (((Below.refl _ _).alloc (Nat.le_refl _) _).alloc (by simp) _).trans (hb.mono (by simp; omega))
  obtain ⟨hc, hf⟩ := bcell hb
  have c0 := hc w.heap.size 0 (by simp; omega)
  have c1 := hc w.heap.size 1 (by simp; omega)
  have c2 := hc w.heap.size 2 (by simp; omega)
  have c3 := hc w.heap.size 3 (by simp; omega)
  have c4 := hc w.heap.size 4 (by simp; omega)
  have c5 := hc w.heap.size 5 (by simp; omega)
  have c6 := hc w.heap.size 6 (by simp; omega)
  have d0 := hc (w.heap.size + 1) 0 (by simp)
  have d1 := hc (w.heap.size + 1) 1 (by simp)
  have d2 := hc (w.heap.size + 1) 2 (by simp)
  have d3 := hc (w.heap.size + 1) 3 (by simp)
  have d4 := hc (w.heap.size + 1) 4 (by simp)
  have d5 := hc (w.heap.size + 1) 5 (by simp)
  have d6 := hc (w.heap.size + 1) 6 (by simp)
  have f0 : ∀ j, w2.frozen? ⟨w.heap.size, j, none⟩ = false := fun j => (hf w.heap.size j (by simp; omega)).trans (by simp)
  have f1 : ∀ j, w2.frozen? ⟨w.heap.size + 1, j, none⟩ = false := fun j => (hf (w.heap.size + 1) j (by simp)).trans (by simp)
  simp at c0 c1 c2 c3 c4 c5 c6 d0 d1 d2 d3 d4 d5 d6
  clear hc hf hb
  go_wp2_with fail
  refine bodyPost_ret (by simp [results, Tryd.results71, go_sem, *]; try rfl) rfl ⟨rfl, ?_⟩
  exact (((((((HB.out.setCell (p := ⟨w.heap.size, 0, none⟩) (Nat.le_refl _) _).setCell (p := ⟨w.heap.size + 1, 0, none⟩) (Nat.le_succ _) _).setCell (p := ⟨w.heap.size + 1, 1, none⟩) (Nat.le_succ _) _).setCell (p := ⟨w.heap.size + 1, 2, none⟩) (Nat.le_succ _) _).setCell (p := ⟨w.heap.size + 1, 3, none⟩) (Nat.le_succ _) _).setCell (p := ⟨w.heap.size + 1, 4, none⟩) (Nat.le_succ _) _).setCell (p := ⟨w.heap.size + 1, 5, none⟩) (Nat.le_succ _) _).setCell (p := ⟨w.heap.size + 1, 6, none⟩) (Nat.le_succ _) _
/-- A row that was made anew, in a block of its own. -/
structure RowCp {α : Type} (f : α → List Value) (z : Nat) (w w' : World) (a' : Option Addr) (l : List α) : Prop where
  row : rowIn f z w' a' l
  blk : l ≠ [] → ∃ b, a' = some ⟨b, 0, none⟩ ∧ w.heap.size ≤ b ∧ b < w'.heap.size
  below : Below w.heap.size w w'
theorem rowCp_of {α : Type} {f : α → List Value} {z T : Nat} {w w' : World} {l : List α} {x : Ending} (h : MadeOf f z T w l.length (fun k ys _ => ys = l.take k) x w') : ∃ a' c', x = .returned (.slice a' l.length c') ∧ RowCp f z w w' a' l := by
  rcases h with ⟨h0, rfl, rfl⟩ | ⟨ys, rfl, hy, hmx, hrow, ⟨cur, hcur⟩, hr, hb⟩
  · have hl : l = [] := List.eq_nil_of_length_eq_zero h0
    subst hl
    exact ⟨none, 0, rfl, fun h => absurd rfl h, fun h => absurd rfl h, Below.refl _ _⟩
  · rw [List.take_length] at hr
    subst hr
    exact ⟨_, _, rfl, fun _ => ⟨_, 0, rfl, lt_of_block hcur, hrow⟩, fun _ => ⟨_, rfl, Nat.le_refl _, lt_of_block hcur⟩, hb⟩
theorem paramsCopied_calls (l : List Pm) (a : Option Addr) (cap : Nat) (w : World) (hrow : rowIn Pm.cells 7 w a l) (hn : l.length ≤ 1048576) (hs : ∀ p ∈ l, p.nm.size ≤ 1048576) : Calls Tryd.prog 70 #[.slice a l.length cap, .func (.func 71) #[] #[]] w fun x w' => ∃ a' c', x = .returned (.slice a' l.length c') ∧ RowCp Pm.cells 7 w w' a' l :=
  (copiedParam_calls 71 (enters_of Tryd.func71 (by kernel_rfl) rfl) l a cap w (fun k ys _ => ys = l.take k) hrow hn (fun W _ _ => by simp) (fun k ys W j v hr _ => hr)
    (fun k hk ys W hl hr _ _ => (copyParam_calls l[k] (hs _ (List.getElem_mem hk)) W).mono fun x W' ⟨h1, h2⟩ => ⟨l[k], h1, by rw [hr, List.take_succ_eq_append_getElem hk], h2⟩)).mono fun _ _ h => rowCp_of h
theorem namesCopied_calls (l : List ByteArray) (a : Option Addr) (cap : Nat) (w : World) (hrow : rowIn textOf 1 w a l) (hn : l.length ≤ 1048576) (hs : ∀ p ∈ l, p.size ≤ 1048576) : Calls Tryd.prog 105 #[.slice a l.length cap, .func (.func 52) #[] #[]] w fun x w' => ∃ a' c', x = .returned (.slice a' l.length c') ∧ RowCp textOf 1 w w' a' l :=
  (copiedText_calls 52 (enters_of Tryd.func52 (by kernel_rfl) rfl) l a cap w (fun k ys _ => ys = l.take k) hrow hn (fun W _ _ => by simp) (fun k ys W j v hr _ => hr)
    (fun k hk ys W hl hr _ _ => (clone_calls l[k] W (hs _ (List.getElem_mem hk))).mono fun x W' ⟨h1, h2⟩ => ⟨l[k], h1, by rw [hr, List.take_succ_eq_append_getElem hk], h2⟩)).mono fun _ _ h => rowCp_of h
/-- An equation's copy, in blocks between. -/
structure EqCp (lo hi : Nat) (w : World) (y q : Eqn) : Prop where
  names : rowIn textOf 1 w y.na y.ns
  lies : y.e.lies w
  ns : y.ns = q.ns
  pq : y.pq = q.pq
  like : y.e.like q.e
  good : y.e.good
  skel : y.e.skel w
  inR : y.e.inR lo hi
  blk : y.ns ≠ [] → ∃ b, y.na = some ⟨b, 0, none⟩ ∧ lo ≤ b ∧ b < hi
theorem EqCp.keep {lo hi : Nat} {w w' : World} {y q : Eqn} (h : EqCp lo hi w y q) (hw : ∀ b, lo ≤ b → b < hi → w'.heap[b]? = w.heap[b]?) (hs : w.heap.size ≤ w'.heap.size) : EqCp lo hi w' y q :=
  ⟨fun hne => by
    obtain ⟨b, o, h1, h2, h3⟩ := h.names hne
    obtain ⟨b', k1, k2, k3⟩ := h.blk hne
    have e3 : b = b' := by have := h1.symm.trans k1; injection this with this; injection this
    subst e3
    exact ⟨b, o, h1, Nat.lt_of_lt_of_le h2 hs, fun i hi j hj => (World.cell?_of_block (hw b k2 k3)).trans (h3 i hi j hj)⟩, lies_inR hw h.inR h.lies, h.ns, h.pq, h.like, h.good, skel_inR hw h.inR h.skel, h.inR, h.blk⟩
theorem EqCp.mono {lo hi lo' hi' : Nat} {w : World} {y q : Eqn} (h : EqCp lo hi w y q) (h1 : lo' ≤ lo) (h2 : hi ≤ hi') : EqCp lo' hi' w y q :=
  ⟨h.names, h.lies, h.ns, h.pq, h.like, h.good, h.skel, inR_mono h1 h2 h.inR, fun hne => by obtain ⟨b, k1, k2, k3⟩ := h.blk hne; exact ⟨b, k1, by omega, by omega⟩⟩
theorem eqCp_of {w0 w1 w2 : World} {a' : Option Addr} {c' : Nat} {c : Ex} {q : Eqn} (hn : RowCp textOf 1 w0 w1 a' q.ns) (hc : CopyOf w1 w2 c q.e) : EqCp w0.heap.size w2.heap.size w2 ⟨a', c', q.ns, q.pq, c⟩ q :=
  ⟨rowIn_below hn.row hc.below, hc.lies, rfl, rfl, hc.like, hc.good, hc.skel, inR_mono hn.below.size (Nat.le_refl _) hc.inR, fun hne => by obtain ⟨b, h1, h2, h3⟩ := hn.blk hne; exact ⟨b, h1, h2, Nat.lt_of_lt_of_le h3 hc.below.size⟩⟩
theorem eq_cells_len' (q : Eqn) : q.cells.length = 8 := by obtain ⟨na, nc, ns, pq, ⟨kd, pl, nm, it, dn, a, c, l⟩⟩ := q; rfl
set_option maxRecDepth 100000 in
set_option maxHeartbeats 6400000 in
theorem copyEq_calls (q : Eqn) (hg : q.good) (w : World) (hl : q.lies w) : Calls Tryd.prog 73 #[q.val] w fun x w' => ∃ y, x = .returned y.val ∧ EqCp w.heap.size w'.heap.size w' y q ∧ Below w.heap.size w w' := by
  have CN : Hid (∀ W, Hid (Below w.heap.size w W) → Calls Tryd.prog 105 #[.slice q.na q.ns.length q.nc, .func (.func 52) #[] #[]] W fun x W' => ∃ a' c', x = .returned (.slice a' q.ns.length c') ∧ RowCp textOf 1 W W' a' q.ns) := fun W hW => namesCopied_calls q.ns q.na q.nc W (rowIn_below hl.1 hW.out) hg.2.1 hg.1
  have CE : Hid (∀ W, Hid (Below w.heap.size w W) → Calls Tryd.prog 19 #[q.e.val] W fun x W' => ∃ c : Ex, x = .returned c.val ∧ CopyOf W W' c q.e) := fun W hW => copy_calls q.e hg.2.2.2 hg.2.2.1 W (lies_below hW.out _ hl.2)
  have HFin : Hid (∀ w0 w1 w2 a' c' c, RowCp textOf 1 w0 w1 a' q.ns → CopyOf w1 w2 c q.e → EqCp w0.heap.size w2.heap.size w2 ⟨a', c', q.ns, q.pq, c⟩ q) := fun _ _ _ _ _ _ h1 h2 => eqCp_of h1 h2
  clear hg hl
  obtain ⟨na, nc, ns, pq, ⟨kd, pl, nm, it, dn, ad, cap, l⟩⟩ := q
  simp only [Eqn.val, Eqn.cells, Ex.val, Ex.cells, List.toArray] at CN CE HFin ⊢
  obtain ⟨W0, hW0⟩ : ∃ W0 : World, W0 = (w.alloc (.cells #[.slice na ns.length nc, .int .i64 pq, .int .u8 kd, .int .i64 pl, .string nm, .int .i64 it, .int .i64 dn, .slice ad l.length cap] 36)).alloc (.cells #[.slice none 0 0, .int .i64 0, .int .u8 0, .int .i64 0, .string ⟨#[]⟩, .int .i64 0, .int .i64 0, .slice none 0 0] 36) := ⟨_, rfl⟩
  have hs0 : W0.heap.size = w.heap.size + 2 := by rw [hW0]; simp
  have HB0 : Hid (Below w.heap.size w W0) := by rw [Hid, hW0]; exact ((Below.refl _ _).alloc (Nat.le_refl _) _).alloc (by simp) _
  have x0 : W0.cell? ⟨w.heap.size, 0, none⟩ = some (.slice na ns.length nc) := by rw [hW0]; simp
  have x1 : W0.cell? ⟨w.heap.size, 1, none⟩ = some (.int .i64 pq) := by rw [hW0]; simp
  have x2 : W0.cell? ⟨w.heap.size, 2, none⟩ = some (.int .u8 kd) := by rw [hW0]; simp
  have x3 : W0.cell? ⟨w.heap.size, 3, none⟩ = some (.int .i64 pl) := by rw [hW0]; simp
  have x4 : W0.cell? ⟨w.heap.size, 4, none⟩ = some (.string nm) := by rw [hW0]; simp
  have x5 : W0.cell? ⟨w.heap.size, 5, none⟩ = some (.int .i64 it) := by rw [hW0]; simp
  have x6 : W0.cell? ⟨w.heap.size, 6, none⟩ = some (.int .i64 dn) := by rw [hW0]; simp
  have x7 : W0.cell? ⟨w.heap.size, 7, none⟩ = some (.slice ad l.length cap) := by rw [hW0]; simp
  have y0 : W0.cell? ⟨w.heap.size + 1, 0, none⟩ = some (.slice none 0 0) := by rw [hW0]; simp
  have y1 : W0.cell? ⟨w.heap.size + 1, 1, none⟩ = some (.int .i64 0) := by rw [hW0]; simp
  have y2 : W0.cell? ⟨w.heap.size + 1, 2, none⟩ = some (.int .u8 0) := by rw [hW0]; simp
  have y3 : W0.cell? ⟨w.heap.size + 1, 3, none⟩ = some (.int .i64 0) := by rw [hW0]; simp
  have y4 : W0.cell? ⟨w.heap.size + 1, 4, none⟩ = some (.string ⟨#[]⟩) := by rw [hW0]; simp
  have y5 : W0.cell? ⟨w.heap.size + 1, 5, none⟩ = some (.int .i64 0) := by rw [hW0]; simp
  have y6 : W0.cell? ⟨w.heap.size + 1, 6, none⟩ = some (.int .i64 0) := by rw [hW0]; simp
  have y7 : W0.cell? ⟨w.heap.size + 1, 7, none⟩ = some (.slice none 0 0) := by rw [hW0]; simp
  have z1 : ∀ j, W0.frozen? ⟨w.heap.size + 1, j, none⟩ = false := fun j => by rw [hW0]; simp
  have HX : Hid (∀ W, Hid (Below W0.heap.size W0 W) → (W.cell? ⟨w.heap.size, 0, none⟩ = some (.slice na ns.length nc) ∧ W.cell? ⟨w.heap.size, 1, none⟩ = some (.int .i64 pq) ∧ W.cell? ⟨w.heap.size, 2, none⟩ = some (.int .u8 kd) ∧ W.cell? ⟨w.heap.size, 3, none⟩ = some (.int .i64 pl) ∧ W.cell? ⟨w.heap.size, 4, none⟩ = some (.string nm) ∧ W.cell? ⟨w.heap.size, 5, none⟩ = some (.int .i64 it) ∧ W.cell? ⟨w.heap.size, 6, none⟩ = some (.int .i64 dn) ∧ W.cell? ⟨w.heap.size, 7, none⟩ = some (.slice ad l.length cap))) := fun W hb => by
    have k : ∀ j, W.cell? ⟨w.heap.size, j, none⟩ = W0.cell? ⟨w.heap.size, j, none⟩ := fun j => hb.out.cell (p := ⟨w.heap.size, j, none⟩) (by show w.heap.size < _; omega)
    exact ⟨(k 0).trans x0, (k 1).trans x1, (k 2).trans x2, (k 3).trans x3, (k 4).trans x4, (k 5).trans x5, (k 6).trans x6, (k 7).trans x7⟩
  have HY : Hid (∀ W, Hid (Below W0.heap.size W0 W) → (W.cell? ⟨w.heap.size + 1, 0, none⟩ = some (.slice none 0 0) ∧ W.cell? ⟨w.heap.size + 1, 1, none⟩ = some (.int .i64 0) ∧ W.cell? ⟨w.heap.size + 1, 2, none⟩ = some (.int .u8 0) ∧ W.cell? ⟨w.heap.size + 1, 3, none⟩ = some (.int .i64 0) ∧ W.cell? ⟨w.heap.size + 1, 4, none⟩ = some (.string ⟨#[]⟩) ∧ W.cell? ⟨w.heap.size + 1, 5, none⟩ = some (.int .i64 0) ∧ W.cell? ⟨w.heap.size + 1, 6, none⟩ = some (.int .i64 0) ∧ W.cell? ⟨w.heap.size + 1, 7, none⟩ = some (.slice none 0 0)) ∧ (∀ j, W.frozen? ⟨w.heap.size + 1, j, none⟩ = false) ∧ w.heap.size + 1 < W.heap.size) := fun W hb => by
    have k : ∀ j, W.cell? ⟨w.heap.size + 1, j, none⟩ = W0.cell? ⟨w.heap.size + 1, j, none⟩ := fun j => hb.out.cell (p := ⟨w.heap.size + 1, j, none⟩) (by show w.heap.size + 1 < _; omega)
    exact ⟨⟨(k 0).trans y0, (k 1).trans y1, (k 2).trans y2, (k 3).trans y3, (k 4).trans y4, (k 5).trans y5, (k 6).trans y6, (k 7).trans y7⟩, fun j => (hb.out.frozen (p := ⟨w.heap.size + 1, j, none⟩) (by show w.heap.size + 1 < _; omega)).trans (z1 j), by have := hb.out.size; omega⟩
  have toW : Hid (∀ W, Hid (Below W0.heap.size W0 W) → Hid (Below w.heap.size w W)) := fun W hb => HB0.out.trans (hb.out.mono (by omega))
  have bl : Hid (∀ W W', Hid (Below W0.heap.size W0 W) → Below W.heap.size W W' → Hid (Below W0.heap.size W0 W')) := fun W W' h1 h2 => h1.out.trans (h2.mono h1.out.size)
  have HD0 : Hid (Below W0.heap.size W0 W0.drew) := (Below.refl _ _).drew
  have HS0 : Hid (W0.heap.size = w.heap.size + 2) := hs0
  have HW0 : Hid (_ = W0) := hW0.symm
  clear hW0 hs0 y0 y1 y2 y3 y4 y5 y6 y7 z1
  go_enter Tryd.func73, Tryd.ntmps73
  go_wp2_with fail
  rw [HW0.out]
  go_cut [] (fun wc => Hid (∃ a' c' c w2, EqCp W0.heap.size w2.heap.size w2 ⟨a', c', ns, pq, c⟩ ⟨na, nc, ns, pq, ⟨kd, pl, nm, it, dn, ad, cap, l⟩⟩ ∧ Below W0.heap.size W0 w2 ∧ wc = setRow w2 (w.heap.size + 1) 0 (Eqn.cells ⟨a', c', ns, pq, c⟩)))
  case first =>
    obtain ⟨v0, v1, v2, v3, v4, v5, v6, v7⟩ := HX.out W0 (Below.refl _ _)
    have hlt0 : w.heap.size + 1 < W0.heap.size := by have := HS0.out; omega
    have hlt1 : w.heap.size < W0.heap.size := by omega
    go_region_held3 (fun w' => w'.cell? ⟨w.heap.size, 0, none⟩ = some (.slice na ns.length nc) ∧ w'.cell? ⟨w.heap.size, 1, none⟩ = some (.int .i64 pq) ∧ w'.cell? ⟨w.heap.size, 2, none⟩ = some (.int .u8 kd) ∧ w'.cell? ⟨w.heap.size, 3, none⟩ = some (.int .i64 pl) ∧ w'.cell? ⟨w.heap.size, 4, none⟩ = some (.string nm) ∧ w'.cell? ⟨w.heap.size, 5, none⟩ = some (.int .i64 it) ∧ w'.cell? ⟨w.heap.size, 6, none⟩ = some (.int .i64 dn) ∧ w'.cell? ⟨w.heap.size, 7, none⟩ = some (.slice ad l.length cap)) (go_simp) (first
      | (go_at_call 105; refine (CN.out _ (toW.out _ HD0)).mono ?_; rintro r w5 ⟨a', c', rfl, hn5⟩; have HN5 : Hid _ := hn5; have hB5 := bl.out _ w5 HD0 hn5.below; obtain ⟨s0, s1, s2, s3, s4, s5, s6, s7⟩ := HX.out w5 hB5; have hl5 : w.heap.size + 1 < w5.heap.size := (HY.out w5 hB5).2.2; clear hn5)
      | (go_at_call 19; refine (CE.out _ (toW.out _ hB5)).mono ?_; rintro r w6 ⟨⟨kd', pl', nm', it', dn', ad', cap', l'⟩, rfl, hc6⟩; have HC6 : Hid _ := hc6; have hB6 := bl.out _ w6 hB5 hc6.below; obtain ⟨r0, r1, r2, r3, r4, r5, r6, r7⟩ := HX.out w6 hB6; obtain ⟨⟨q0, q1, q2, q3, q4, q5, q6, q7⟩, qf, ql⟩ := HY.out w6 hB6; have ql1 : w.heap.size < w6.heap.size := (by omega); clear hc6))
    all_goals go_wp2_with fail
    all_goals go_meet
    all_goals exact ⟨a', c', _, w6, HFin.out W0.drew _ _ _ _ _ HN5.out HC6.out, hB6.out, rfl⟩
  case rest =>
    obtain ⟨a', c', c, w2, hE, hB, rfl⟩ := hcut.out
    have hs0 := HS0.out
    have hkeep : ∀ x, W0.heap.size ≤ x → (setRow w2 (w.heap.size + 1) 0 (Eqn.cells ⟨a', c', ns, pq, c⟩)).heap[x]? = w2.heap[x]? := fun x hx => setRow_other _ _ _ (by omega)
    have hsz : (setRow w2 (w.heap.size + 1) 0 (Eqn.cells ⟨a', c', ns, pq, c⟩)).heap.size = w2.heap.size := setRow_size _ _ _
    have hE2 : EqCp w.heap.size w2.heap.size (setRow w2 (w.heap.size + 1) 0 (Eqn.cells ⟨a', c', ns, pq, c⟩)) ⟨a', c', ns, pq, c⟩ ⟨na, nc, ns, pq, ⟨kd, pl, nm, it, dn, ad, cap, l⟩⟩ := (hE.keep (fun b h1 _ => hkeep b h1) (by rw [hsz]; exact Nat.le_refl _)).mono (by omega) (Nat.le_refl _)
    have hB2 : Below w.heap.size w (setRow w2 (w.heap.size + 1) 0 (Eqn.cells ⟨a', c', ns, pq, c⟩)) := setRow_below _ (by omega) _ _ (HB0.out.trans (hB.mono (by omega)))
    have hcl := fun j (hj : j < 8) => setRow_cell (Eqn.cells ⟨a', c', ns, pq, c⟩) w2 (w.heap.size + 1) 0 j (eq_cells_len' _ ▸ hj) (fun j hj => by
      obtain ⟨⟨q0, q1, q2, q3, q4, q5, q6, q7⟩, -, -⟩ := HY.out w2 hB
      rw [Nat.zero_add, eq_cells_len'] at *
      match j, hj with
      | 0, _ => exact ⟨_, q0⟩
      | 1, _ => exact ⟨_, q1⟩
      | 2, _ => exact ⟨_, q2⟩
      | 3, _ => exact ⟨_, q3⟩
      | 4, _ => exact ⟨_, q4⟩
      | 5, _ => exact ⟨_, q5⟩
      | 6, _ => exact ⟨_, q6⟩
      | 7, _ => exact ⟨_, q7⟩)
    have HE2 : Hid _ := hE2
    have HB2 : Hid _ := hB2
    have HSz : Hid _ := hsz
    obtain ⟨kd', pl', nm', it', dn', ad', cap', l'⟩ := c
    generalize hWf : setRow w2 (w.heap.size + 1) 0 (Eqn.cells ⟨a', c', ns, pq, ⟨kd', pl', nm', it', dn', ad', cap', l'⟩⟩) = Wf at *
    have t0 : Wf.cell? ⟨w.heap.size + 1, 0, none⟩ = some (.slice a' ns.length c') := hcl 0 (by omega)
    have t1 : Wf.cell? ⟨w.heap.size + 1, 1, none⟩ = some (.int .i64 pq) := hcl 1 (by omega)
    have t2 : Wf.cell? ⟨w.heap.size + 1, 2, none⟩ = some (.int .u8 kd') := hcl 2 (by omega)
    have t3 : Wf.cell? ⟨w.heap.size + 1, 3, none⟩ = some (.int .i64 pl') := hcl 3 (by omega)
    have t4 : Wf.cell? ⟨w.heap.size + 1, 4, none⟩ = some (.string nm') := hcl 4 (by omega)
    have t5 : Wf.cell? ⟨w.heap.size + 1, 5, none⟩ = some (.int .i64 it') := hcl 5 (by omega)
    have t6 : Wf.cell? ⟨w.heap.size + 1, 6, none⟩ = some (.int .i64 dn') := hcl 6 (by omega)
    have t7 : Wf.cell? ⟨w.heap.size + 1, 7, none⟩ = some (.slice ad' l'.length cap') := hcl 7 (by omega)
    clear hcl hWf hkeep hE hB hE2 hB2 hsz hcut x0 x1 x2 x3 x4 x5 x6 x7
    go_wp2_with fail
    refine bodyPost_ret (v := .agg #[.slice a' ns.length c', .int .i64 pq, .int .u8 kd', .int .i64 pl', .string nm', .int .i64 it', .int .i64 dn', .slice ad' l'.length cap']) (by simp [results, Tryd.results73, go_sem, *]; try rfl) rfl ⟨⟨a', c', ns, pq, ⟨kd', pl', nm', it', dn', ad', cap', l'⟩⟩, rfl, ?_, HB2.out⟩
    rw [HSz.out]
    exact HE2.out
end Go.Proofs.YthbjagmlcemefaaDoor
/- The program's copies of equations, nodes, programs: which blocks each has for its own. -/
namespace Go.Proofs.YthbjagmlcemefaaDoor
open Go.RowKit
open Ex.size Ex.depth Ex.lies Ex.bulk Ex.good Ex.like Ex.inR Ex.skel
attribute [local go_sem] later_size later_cell later_frozen later_setCell later_drew later_drewN later_tape drewN_setCell drewN_alloc drewN_later later_later lt_more lt_more1 lt_more2 lt_more3 lt_more4 lk0_0_1 lk1_0_1 lk2_0_1 lk0_0_2 lk1_0_2 lk2_0_2 lk0_1_2 lk0_0_3 lk1_0_3 lk2_0_3 lk0_1_3 lk0_2_3 lk0_0_4 lk1_0_4 lk2_0_4 lk0_1_4 lk0_2_4 lk0_3_4 lk0_0_5 lk1_0_5 lk2_0_5 lk0_1_5 lk0_2_5 lk0_3_5 lk0_4_5 lk0_0_6 lk1_0_6 lk2_0_6 lk0_1_6 lk0_2_6 lk0_3_6 lk0_4_6 lk0_5_6 lk0_0_7 lk1_0_7 lk2_0_7 lk0_1_7 lk0_2_7 lk0_3_7 lk0_4_7 lk0_5_7 lk0_6_7
/-- Copies of a list's elements, one behind the other, each in blocks of its own. -/
def Chain {α : Type} (P : Nat → Nat → World → α → α → Prop) (lo hi : Nat) (l ys : List α) (W : World) : Prop :=
  ∃ t : Nat → Nat, lo ≤ t 0 ∧ (∀ i, i < ys.length → t i ≤ t (i + 1)) ∧ t ys.length ≤ hi ∧ ∀ i (h : i < ys.length) (h' : i < l.length), P (t i) (t (i + 1)) W ys[i] l[i]
theorem chain_le {t : Nat → Nat} {n : Nat} (h : ∀ i, i < n → t i ≤ t (i + 1)) : ∀ j, j ≤ n → ∀ i, i ≤ j → t i ≤ t j := by
  intro j
  induction j with
  | zero => intro _ i hi; rw [Nat.le_zero.1 hi]; exact Nat.le_refl _
  | succ j ih =>
    intro hj i hi
    rcases Nat.lt_or_ge i (j + 1) with h1 | h1
    · exact Nat.le_trans (ih (by omega) i (by omega)) (h j (by omega))
    · rw [show i = j + 1 by omega]; exact Nat.le_refl _
def KeepP {α : Type} (P : Nat → Nat → World → α → α → Prop) : Prop := ∀ a b w w' y q, P a b w y q → (∀ x, a ≤ x → x < b → w'.heap[x]? = w.heap[x]?) → w.heap.size ≤ w'.heap.size → P a b w' y q
def MonoP {α : Type} (P : Nat → Nat → World → α → α → Prop) : Prop := ∀ a b a' b' w y q, P a b w y q → a' ≤ a → b ≤ b' → P a' b' w y q
theorem chain_nil {α : Type} {P : Nat → Nat → World → α → α → Prop} {lo hi : Nat} {l : List α} {W : World} (h : lo ≤ hi) : Chain P lo hi l [] W := ⟨fun _ => lo, Nat.le_refl _, fun _ h => by simp at h, h, fun i h => by simp at h⟩
theorem chain_keep {α : Type} {P : Nat → Nat → World → α → α → Prop} {lo hi : Nat} {l ys : List α} {W W' : World} (hP : KeepP P) (h : Chain P lo hi l ys W) (hw : ∀ x, lo ≤ x → x < hi → W'.heap[x]? = W.heap[x]?) (hs : W.heap.size ≤ W'.heap.size) : Chain P lo hi l ys W' := by
  obtain ⟨t, h1, h2, h3, h4⟩ := h
  refine ⟨t, h1, h2, h3, fun i hi hi' => hP _ _ _ _ _ _ (h4 i hi hi') (fun x k1 k2 => hw x ?_ ?_) hs⟩
  · have := chain_le h2 i (by omega) 0 (by omega); omega
  · have := chain_le h2 ys.length (Nat.le_refl _) (i + 1) (by omega); omega
theorem chain_mono {α : Type} {P : Nat → Nat → World → α → α → Prop} {lo hi lo' hi' : Nat} {l ys : List α} {W : World} (h : Chain P lo hi l ys W) (h1 : lo' ≤ lo) (h2 : hi ≤ hi') : Chain P lo' hi' l ys W := by
  obtain ⟨t, k1, k2, k3, k4⟩ := h
  exact ⟨t, by omega, k2, by omega, k4⟩
theorem chain_snoc {α : Type} {P : Nat → Nat → World → α → α → Prop} {lo : Nat} {l ys : List α} {W W' : World} {y : α} {k : Nat} (hP : KeepP P) (hM : MonoP P) (h : Chain P lo W.heap.size l ys W) (hk : ys.length = k) (hkl : k < l.length) (hb : Below W.heap.size W W') (hy : P W.heap.size W'.heap.size W' y l[k]) : Chain P lo W'.heap.size l (ys ++ [y]) W' := by
  obtain ⟨t, h1, h2, h3, h4⟩ := h
  refine ⟨fun i => if i ≤ k then t i else W'.heap.size, by simpa using h1, fun i hi => ?_, by simp only [List.length_append, List.length_cons, List.length_nil, hk]; rw [if_neg (by omega)]; exact Nat.le_refl _, fun i hi hi' => ?_⟩
  · simp only [List.length_append, List.length_cons, List.length_nil] at hi
    by_cases hik : i < k
    · simp only [if_pos (show i ≤ k by omega), if_pos (show i + 1 ≤ k by omega)]
      exact h2 i (by omega)
    · obtain rfl : i = k := by omega
      simp only [if_pos (Nat.le_refl i), if_neg (show ¬ i + 1 ≤ i by omega)]
      have := hb.size
      rw [hk] at h3
      omega
  · simp only [List.length_append, List.length_cons, List.length_nil] at hi
    by_cases hik : i < k
    · simp only [if_pos (show i ≤ k by omega), if_pos (show i + 1 ≤ k by omega)]
      rw [List.getElem_append_left (by omega)]
      refine hP _ _ _ _ _ _ (h4 i (by omega) hi') (fun x k1 k2 => hb.block x ?_) hb.size
      have := chain_le h2 ys.length (Nat.le_refl _) (i + 1) (by omega)
      omega
    · obtain rfl : i = k := by omega
      simp only [if_pos (Nat.le_refl i), if_neg (show ¬ i + 1 ≤ i by omega)]
      have e1 : (ys ++ [y])[i] = y := by rw [List.getElem_append_right (by omega)]; simp [hk]
      rw [e1]
      rw [hk] at h3
      exact hM _ _ _ _ _ _ _ hy h3 (Nat.le_refl _)
theorem eqCp_keepP : KeepP EqCp := fun _ _ _ _ _ _ h hw hs => h.keep hw hs
theorem eqCp_monoP : MonoP EqCp := fun _ _ _ _ _ _ _ h h1 h2 => h.mono h1 h2
/-- A row of copies, in blocks between. -/
structure RowOf {α : Type} (f : α → List Value) (z : Nat) (P : Nat → Nat → World → α → α → Prop) (lo hi : Nat) (w' : World) (a' : Option Addr) (l ys : List α) : Prop where
  len : ys.length = l.length
  row : rowIn f z w' a' ys
  blk : ys ≠ [] → ∃ g, a' = some ⟨g, 0, none⟩ ∧ lo ≤ g ∧ g < hi ∧ Chain P (g + 1) hi l ys w'
theorem RowOf.keep {α : Type} {f : α → List Value} {z : Nat} {P : Nat → Nat → World → α → α → Prop} {lo hi : Nat} {w w' : World} {a' : Option Addr} {l ys : List α} (hP : KeepP P) (h : RowOf f z P lo hi w a' l ys) (hw : ∀ x, lo ≤ x → x < hi → w'.heap[x]? = w.heap[x]?) (hs : w.heap.size ≤ w'.heap.size) : RowOf f z P lo hi w' a' l ys :=
  ⟨h.len, fun hne => by
    obtain ⟨b, o, h1, h2, h3⟩ := h.row hne
    obtain ⟨g, k1, k2, k3, -⟩ := h.blk hne
    have e3 : b = g := by have := h1.symm.trans k1; injection this with this; injection this
    subst e3
    exact ⟨b, o, h1, Nat.lt_of_lt_of_le h2 hs, fun i hi j hj => (World.cell?_of_block (hw b k2 k3)).trans (h3 i hi j hj)⟩, fun hne => by
    obtain ⟨g, k1, k2, k3, k4⟩ := h.blk hne
    exact ⟨g, k1, k2, k3, chain_keep hP k4 (fun x h1 h2 => hw x (by omega) h2) hs⟩⟩
theorem RowOf.mono {α : Type} {f : α → List Value} {z : Nat} {P : Nat → Nat → World → α → α → Prop} {lo hi lo' hi' : Nat} {w : World} {a' : Option Addr} {l ys : List α} (h : RowOf f z P lo hi w a' l ys) (h1 : lo' ≤ lo) (h2 : hi ≤ hi') : RowOf f z P lo' hi' w a' l ys :=
  ⟨h.len, h.row, fun hne => by obtain ⟨g, k1, k2, k3, k4⟩ := h.blk hne; exact ⟨g, k1, by omega, by omega, chain_mono k4 (Nat.le_refl _) h2⟩⟩
theorem rowOf_made {α : Type} {f : α → List Value} {z T : Nat} {P : Nat → Nat → World → α → α → Prop} {w w' : World} {l : List α} {x : Ending} (h : MadeOf f z T w l.length (fun k ys W => ys.length = k ∧ Chain P (w.heap.size + 1) W.heap.size l ys W) x w') : ∃ a' c' ys, x = .returned (.slice a' l.length c') ∧ RowOf f z P w.heap.size w'.heap.size w' a' l ys ∧ Below w.heap.size w w' := by
  rcases h with ⟨h0, rfl, rfl⟩ | ⟨ys, rfl, hy, hmx, hrow, ⟨cur, hcur⟩, hr, hb⟩
  · exact ⟨none, 0, [], by rw [h0], ⟨by rw [h0]; rfl, fun h => absurd rfl h, fun h => absurd rfl h⟩, Below.refl _ _⟩
  · exact ⟨_, _, ys, rfl, ⟨hy, fun _ => ⟨_, 0, rfl, lt_of_block hcur, hrow⟩, fun _ => ⟨_, rfl, Nat.le_refl _, lt_of_block hcur, hr.2⟩⟩, hb⟩
/-- Rows of copies keep where the row itself is written. -/
theorem chain_set {α : Type} {P : Nat → Nat → World → α → α → Prop} {w W : World} {l ys : List α} {j : Nat} {v : Value} (hP : KeepP P) (h : Chain P (w.heap.size + 1) W.heap.size l ys W) : Chain P (w.heap.size + 1) (W.setCell ⟨w.heap.size, j, none⟩ v).heap.size l ys (W.setCell ⟨w.heap.size, j, none⟩ v) := by
  have := chain_keep (W' := W.setCell ⟨w.heap.size, j, none⟩ v) hP h (fun x h1 _ => Below.heap_setCell _ _ _ _ (show x ≠ w.heap.size by omega)) (by simp)
  simpa using this
theorem eqsCopied_calls (l : List Eqn) (a : Option Addr) (cap : Nat) (w : World) (hrow : rowIn Eqn.cells 8 w a l) (hn : l.length ≤ 1048576) (hg : ∀ q ∈ l, q.good) (hl : ∀ q ∈ l, q.lies w) : Calls Tryd.prog 72 #[.slice a l.length cap, .func (.func 73) #[] #[]] w fun x w' => ∃ a' c' ys, x = .returned (.slice a' l.length c') ∧ RowOf Eqn.cells 8 EqCp w.heap.size w'.heap.size w' a' l ys ∧ Below w.heap.size w w' :=
  (copiedEq_calls 73 (enters_of Tryd.func73 (by kernel_rfl) rfl) l a cap w (fun k ys W => ys.length = k ∧ Chain EqCp (w.heap.size + 1) W.heap.size l ys W) hrow hn (fun W _ hlt => ⟨rfl, chain_nil (by omega)⟩) (fun k ys W j v hr _ => ⟨hr.1, chain_set eqCp_keepP hr.2⟩)
    (fun k hk ys W hl' hr hb _ => (copyEq_calls l[k] (hg _ (List.getElem_mem hk)) W (Eqn.lies_below (hl _ (List.getElem_mem hk)) hb)).mono fun x W' ⟨y, h1, h2, h3⟩ => ⟨y, h1, ⟨by simp [hl'], chain_snoc eqCp_keepP eqCp_monoP hr.2 hl' hk h3 h2⟩, h3⟩)).mono fun _ _ h => rowOf_made h
/-- A row of params, in a block between. -/
def PmRow (lo hi : Nat) (w : World) (a' : Option Addr) (l : List Pm) : Prop := rowIn Pm.cells 7 w a' l ∧ (l ≠ [] → ∃ b, a' = some ⟨b, 0, none⟩ ∧ lo ≤ b ∧ b < hi)
theorem PmRow.keep {lo hi : Nat} {w w' : World} {a' : Option Addr} {l : List Pm} (h : PmRow lo hi w a' l) (hw : ∀ x, lo ≤ x → x < hi → w'.heap[x]? = w.heap[x]?) (hs : w.heap.size ≤ w'.heap.size) : PmRow lo hi w' a' l :=
  ⟨fun hne => by
    obtain ⟨b, o, h1, h2, h3⟩ := h.1 hne
    obtain ⟨g, k1, k2, k3⟩ := h.2 hne
    have e3 : b = g := by have := h1.symm.trans k1; injection this with this; injection this
    subst e3
    exact ⟨b, o, h1, Nat.lt_of_lt_of_le h2 hs, fun i hi j hj => (World.cell?_of_block (hw b k2 k3)).trans (h3 i hi j hj)⟩, h.2⟩
theorem PmRow.mono {lo hi lo' hi' : Nat} {w : World} {a' : Option Addr} {l : List Pm} (h : PmRow lo hi w a' l) (h1 : lo' ≤ lo) (h2 : hi ≤ hi') : PmRow lo' hi' w a' l := ⟨h.1, fun hne => by obtain ⟨b, k1, k2, k3⟩ := h.2 hne; exact ⟨b, k1, by omega, by omega⟩⟩
theorem pmRow_of {w0 w w1 w2 : World} {a' : Option Addr} {l : List Pm} (h : RowCp Pm.cells 7 w w1 a' l) (h0 : w0.heap.size ≤ w.heap.size) (hb : Below w1.heap.size w1 w2) : PmRow w0.heap.size w2.heap.size w2 a' l :=
  ⟨rowIn_below h.row hb, fun hne => by obtain ⟨b, k1, k2, k3⟩ := h.blk hne; exact ⟨b, k1, by omega, Nat.lt_of_lt_of_le k3 hb.size⟩⟩
/-- A node's copy. -/
structure NdCp (lo hi : Nat) (w : World) (y n : Nd) : Prop where
  fl : y.fl = n.fl
  nm : y.nm = n.nm
  pl : y.pl = n.pl
  insE : y.ins = n.ins
  outsE : y.outs = n.outs
  varsE : y.vars = n.vars
  ins : PmRow lo hi w y.ia y.ins
  outs : PmRow lo hi w y.oa y.outs
  vars : PmRow lo hi w y.va y.vars
  eqs : RowOf Eqn.cells 8 EqCp lo hi w y.qa n.eqs y.eqs
theorem ndCp_keepP : KeepP NdCp := fun _ _ _ _ _ _ h hw hs => ⟨h.fl, h.nm, h.pl, h.insE, h.outsE, h.varsE, h.ins.keep hw hs, h.outs.keep hw hs, h.vars.keep hw hs, h.eqs.keep eqCp_keepP hw hs⟩
theorem ndCp_monoP : MonoP NdCp := fun _ _ _ _ _ _ _ h h1 h2 => ⟨h.fl, h.nm, h.pl, h.insE, h.outsE, h.varsE, h.ins.mono h1 h2, h.outs.mono h1 h2, h.vars.mono h1 h2, h.eqs.mono h1 h2⟩
structure PmsIs (w : World) (a : Option Addr) (c : Nat) (l : List Pm) : Prop where
  out : ∀ W, Hid (Below w.heap.size w W) → Calls Tryd.prog 70 #[.slice a l.length c, .func (.func 71) #[] #[]] W fun x W' => ∃ a' c', x = .returned (.slice a' l.length c') ∧ RowCp Pm.cells 7 W W' a' l
set_option maxRecDepth 100000 in
set_option maxHeartbeats 6400000 in
theorem copyNode_calls (n : Nd) (hg : n.good) (w : World) (hl : n.lies w) : Calls Tryd.prog 45 #[n.val] w fun x w' => ∃ y, x = .returned y.val ∧ NdCp w.heap.size w'.heap.size w' y n ∧ Below w.heap.size w w' := by
  obtain ⟨g1, g2, g3, g4, g5, g6, g7, g8, g9⟩ := hg
  obtain ⟨k1, k2, k3, k4, k5⟩ := hl
  have CC : Hid (∀ W, Calls Tryd.prog 52 #[.string n.nm] W fun e W' => e = .returned (.string n.nm) ∧ Below W.heap.size W W') := fun W => clone_calls n.nm W g1
  have CI : PmsIs w n.ia n.ic n.ins := ⟨fun W hW => paramsCopied_calls n.ins n.ia n.ic W (rowIn_below k1 hW.out) g2 g6⟩
  have CO : PmsIs w n.oa n.oc n.outs := ⟨fun W hW => paramsCopied_calls n.outs n.oa n.oc W (rowIn_below k2 hW.out) g3 g7⟩
  have CV : PmsIs w n.va n.vc n.vars := ⟨fun W hW => paramsCopied_calls n.vars n.va n.vc W (rowIn_below k3 hW.out) g4 g8⟩
  have CQ : Hid (∀ W, Hid (Below w.heap.size w W) → Calls Tryd.prog 72 #[.slice n.qa n.eqs.length n.qc, .func (.func 73) #[] #[]] W fun x W' => ∃ a' c' ys, x = .returned (.slice a' n.eqs.length c') ∧ RowOf Eqn.cells 8 EqCp W.heap.size W'.heap.size W' a' n.eqs ys ∧ Below W.heap.size W W') := fun W hW => eqsCopied_calls n.eqs n.qa n.qc W (rowIn_below k4 hW.out) g5 g9 (fun q hq => Eqn.lies_below (k5 q hq) hW.out)
  clear g1 g2 g3 g4 g5 g6 g7 g8 g9 k1 k2 k3 k4 k5
  obtain ⟨fl, nm, pl, ia, ic, ins, oa, oc, outs, va, vc, vars, qa, qc, eqs⟩ := n
  simp only [Nd.val, Nd.cells, List.toArray] at CC CI CO CV CQ ⊢
  obtain ⟨W0, hW0⟩ : ∃ W0 : World, W0 = (w.alloc (.cells #[.bool fl, .string nm, .int .i64 pl, .slice ia ins.length ic, .slice oa outs.length oc, .slice va vars.length vc, .slice qa eqs.length qc] 29)).alloc (.cells #[.bool false, .string ⟨#[]⟩, .int .i64 0, .slice none 0 0, .slice none 0 0, .slice none 0 0, .slice none 0 0] 29) := ⟨_, rfl⟩
  have hs0 : W0.heap.size = w.heap.size + 2 := by rw [hW0]; simp
  have HB0 : Hid (Below w.heap.size w W0) := by rw [Hid, hW0]; exact ((Below.refl _ _).alloc (Nat.le_refl _) _).alloc (by simp) _
  have x0 : W0.cell? ⟨w.heap.size, 0, none⟩ = some (.bool fl) := by rw [hW0]; simp
  have x1 : W0.cell? ⟨w.heap.size, 1, none⟩ = some (.string nm) := by rw [hW0]; simp
  have x2 : W0.cell? ⟨w.heap.size, 2, none⟩ = some (.int .i64 pl) := by rw [hW0]; simp
  have x3 : W0.cell? ⟨w.heap.size, 3, none⟩ = some (.slice ia ins.length ic) := by rw [hW0]; simp
  have x4 : W0.cell? ⟨w.heap.size, 4, none⟩ = some (.slice oa outs.length oc) := by rw [hW0]; simp
  have x5 : W0.cell? ⟨w.heap.size, 5, none⟩ = some (.slice va vars.length vc) := by rw [hW0]; simp
  have x6 : W0.cell? ⟨w.heap.size, 6, none⟩ = some (.slice qa eqs.length qc) := by rw [hW0]; simp
  have y0 : W0.cell? ⟨w.heap.size + 1, 0, none⟩ = some (.bool false) := by rw [hW0]; simp
  have y1 : W0.cell? ⟨w.heap.size + 1, 1, none⟩ = some (.string ⟨#[]⟩) := by rw [hW0]; simp
  have y2 : W0.cell? ⟨w.heap.size + 1, 2, none⟩ = some (.int .i64 0) := by rw [hW0]; simp
  have y3 : W0.cell? ⟨w.heap.size + 1, 3, none⟩ = some (.slice none 0 0) := by rw [hW0]; simp
  have y4 : W0.cell? ⟨w.heap.size + 1, 4, none⟩ = some (.slice none 0 0) := by rw [hW0]; simp
  have y5 : W0.cell? ⟨w.heap.size + 1, 5, none⟩ = some (.slice none 0 0) := by rw [hW0]; simp
  have y6 : W0.cell? ⟨w.heap.size + 1, 6, none⟩ = some (.slice none 0 0) := by rw [hW0]; simp
  have z1 : ∀ j, W0.frozen? ⟨w.heap.size + 1, j, none⟩ = false := fun j => by rw [hW0]; simp
  have HX : Hid (∀ W, Hid (Below W0.heap.size W0 W) → (W.cell? ⟨w.heap.size, 0, none⟩ = some (.bool fl) ∧ W.cell? ⟨w.heap.size, 1, none⟩ = some (.string nm) ∧ W.cell? ⟨w.heap.size, 2, none⟩ = some (.int .i64 pl) ∧ W.cell? ⟨w.heap.size, 3, none⟩ = some (.slice ia ins.length ic) ∧ W.cell? ⟨w.heap.size, 4, none⟩ = some (.slice oa outs.length oc) ∧ W.cell? ⟨w.heap.size, 5, none⟩ = some (.slice va vars.length vc) ∧ W.cell? ⟨w.heap.size, 6, none⟩ = some (.slice qa eqs.length qc)) ∧ w.heap.size + 1 < W.heap.size) := fun W hb => by
    have k : ∀ j, W.cell? ⟨w.heap.size, j, none⟩ = W0.cell? ⟨w.heap.size, j, none⟩ := fun j => hb.out.cell (p := ⟨w.heap.size, j, none⟩) (by show w.heap.size < _; omega)
    exact ⟨⟨(k 0).trans x0, (k 1).trans x1, (k 2).trans x2, (k 3).trans x3, (k 4).trans x4, (k 5).trans x5, (k 6).trans x6⟩, by have := hb.out.size; omega⟩
  have HY : Hid (∀ W, Hid (Below W0.heap.size W0 W) → (W.cell? ⟨w.heap.size + 1, 0, none⟩ = some (.bool false) ∧ W.cell? ⟨w.heap.size + 1, 1, none⟩ = some (.string ⟨#[]⟩) ∧ W.cell? ⟨w.heap.size + 1, 2, none⟩ = some (.int .i64 0) ∧ W.cell? ⟨w.heap.size + 1, 3, none⟩ = some (.slice none 0 0) ∧ W.cell? ⟨w.heap.size + 1, 4, none⟩ = some (.slice none 0 0) ∧ W.cell? ⟨w.heap.size + 1, 5, none⟩ = some (.slice none 0 0) ∧ W.cell? ⟨w.heap.size + 1, 6, none⟩ = some (.slice none 0 0)) ∧ (∀ j, W.frozen? ⟨w.heap.size + 1, j, none⟩ = false)) := fun W hb => by
    have k : ∀ j, W.cell? ⟨w.heap.size + 1, j, none⟩ = W0.cell? ⟨w.heap.size + 1, j, none⟩ := fun j => hb.out.cell (p := ⟨w.heap.size + 1, j, none⟩) (by show w.heap.size + 1 < _; omega)
    exact ⟨⟨(k 0).trans y0, (k 1).trans y1, (k 2).trans y2, (k 3).trans y3, (k 4).trans y4, (k 5).trans y5, (k 6).trans y6⟩, fun j => (hb.out.frozen (p := ⟨w.heap.size + 1, j, none⟩) (by show w.heap.size + 1 < _; omega)).trans (z1 j)⟩
  have toW : Hid (∀ W, Hid (Below W0.heap.size W0 W) → Hid (Below w.heap.size w W)) := fun W hb => HB0.out.trans (hb.out.mono (by omega))
  have bl : Hid (∀ W W', Hid (Below W0.heap.size W0 W) → Below W.heap.size W W' → Hid (Below W0.heap.size W0 W')) := fun W W' h1 h2 => h1.out.trans (h2.mono h1.out.size)
  have HD0 : Hid (Below W0.heap.size W0 W0.drew) := (Below.refl _ _).drew
  have HS0 : Hid (W0.heap.size = w.heap.size + 2) := hs0
  have HW0 : Hid (_ = W0) := hW0.symm
  clear hW0 hs0 y0 y1 y2 y3 y4 y5 y6 z1
  go_enter Tryd.func45, Tryd.ntmps45
  go_wp2_with fail
  rw [HW0.out]
  go_cut [] (fun wc => Hid (∃ y w2, NdCp W0.heap.size w2.heap.size w2 y ⟨fl, nm, pl, ia, ic, ins, oa, oc, outs, va, vc, vars, qa, qc, eqs⟩ ∧ Below W0.heap.size W0 w2 ∧ wc = setRow w2 (w.heap.size + 1) 0 y.cells))
  case first =>
    have hlt0 : w.heap.size + 1 < W0.heap.size := by have := HS0.out; omega
    have hlt1 : w.heap.size < W0.heap.size := by omega
    go_region_held3 (fun w' => w'.cell? ⟨w.heap.size, 0, none⟩ = some (.bool fl) ∧ w'.cell? ⟨w.heap.size, 1, none⟩ = some (.string nm) ∧ w'.cell? ⟨w.heap.size, 2, none⟩ = some (.int .i64 pl) ∧ w'.cell? ⟨w.heap.size, 3, none⟩ = some (.slice ia ins.length ic) ∧ w'.cell? ⟨w.heap.size, 4, none⟩ = some (.slice oa outs.length oc) ∧ w'.cell? ⟨w.heap.size, 5, none⟩ = some (.slice va vars.length vc) ∧ w'.cell? ⟨w.heap.size, 6, none⟩ = some (.slice qa eqs.length qc)) (go_simp) (first
      | (go_at_call 52; refine (CC.out _).mono ?_; rintro r w1 ⟨rfl, hb1⟩; have hB1 := bl.out _ w1 HD0 hb1; obtain ⟨⟨s0, s1, s2, s3, s4, s5, s6⟩, sl⟩ := HX.out w1 hB1; clear hb1)
      | (go_at_call_of 70 ia; refine (CI.out _ (toW.out _ hB1)).mono ?_; rintro r w2 ⟨ia', ic', rfl, hi2⟩; have HI2 : Hid _ := hi2; have hB2 := bl.out _ w2 hB1 hi2.below; obtain ⟨⟨t0, t1, t2, t3, t4, t5, t6⟩, tl⟩ := HX.out w2 hB2; clear hi2)
      | (go_at_call_of 70 oa; refine (CO.out _ (toW.out _ hB2)).mono ?_; rintro r w3 ⟨oa', oc', rfl, ho3⟩; have HO3 : Hid _ := ho3; have hB3 := bl.out _ w3 hB2 ho3.below; obtain ⟨⟨p0, p1, p2, p3, p4, p5, p6⟩, pl3⟩ := HX.out w3 hB3; clear ho3)
      | (go_at_call_of 70 va; refine (CV.out _ (toW.out _ hB3)).mono ?_; rintro r w4 ⟨va', vc', rfl, hv4⟩; have HV4 : Hid _ := hv4; have hB4 := bl.out _ w4 hB3 hv4.below; obtain ⟨⟨m0, m1, m2, m3, m4, m5, m6⟩, ml⟩ := HX.out w4 hB4; clear hv4)
      | (go_at_call 72; refine (CQ.out _ (toW.out _ hB4)).mono ?_; rintro r w5 ⟨qa', qc', ys, rfl, hq5, hb5⟩; have HQ5 : Hid _ := hq5; have HB5 : Hid _ := hb5; have hB5 := bl.out _ w5 hB4 hb5; obtain ⟨⟨n0, n1, n2, n3, n4, n5, n6⟩, nl⟩ := HX.out w5 hB5; obtain ⟨⟨q0, q1, q2, q3, q4, q5, q6⟩, qf⟩ := HY.out w5 hB5; have nl1 : w.heap.size < w5.heap.size := (by omega); clear hq5 hb5))
    all_goals go_wp2_with fail
    all_goals go_meet
    have hlen := HQ5.out.len
    have b23 := HO3.out.below
    have b34 := HV4.out.below
    have b45 := HB5.out
    have b35 := b34.trans (b45.mono b34.size)
    have b25 := b23.trans (b35.mono b23.size)
    have s1' := hB1.out.size
    have s2' := hB2.out.size
    have s3' := hB3.out.size
    have s4' := hB4.out.size
    refine ⟨⟨fl, nm, pl, ia', ic', ins, oa', oc', outs, va', vc', vars, qa', qc', ys⟩, w5, ⟨rfl, rfl, rfl, rfl, rfl, rfl, pmRow_of HI2.out s1' b25, pmRow_of HO3.out s2' b35, pmRow_of HV4.out s3' b45, HQ5.out.mono s4' (Nat.le_refl _)⟩, hB5.out, ?_⟩
    simp only [Nd.cells, hlen]
    rfl
  case rest =>
    obtain ⟨y, w2, hE, hB, rfl⟩ := hcut.out
    have hs0 := HS0.out
    have hkeep : ∀ x, W0.heap.size ≤ x → (setRow w2 (w.heap.size + 1) 0 y.cells).heap[x]? = w2.heap[x]? := fun x hx => setRow_other _ _ _ (by omega)
    have hsz : (setRow w2 (w.heap.size + 1) 0 y.cells).heap.size = w2.heap.size := setRow_size _ _ _
    have hE2 : NdCp w.heap.size w2.heap.size (setRow w2 (w.heap.size + 1) 0 y.cells) y ⟨fl, nm, pl, ia, ic, ins, oa, oc, outs, va, vc, vars, qa, qc, eqs⟩ := ndCp_monoP _ _ _ _ _ _ _ (ndCp_keepP _ _ _ _ _ _ hE (fun b h1 _ => hkeep b h1) (by rw [hsz]; exact Nat.le_refl _)) (by omega) (Nat.le_refl _)
    have hB2 : Below w.heap.size w (setRow w2 (w.heap.size + 1) 0 y.cells) := setRow_below _ (by omega) _ _ (HB0.out.trans (hB.mono (by omega)))
    have hcl := fun j (hj : j < 7) => setRow_cell y.cells w2 (w.heap.size + 1) 0 j hj (fun j hj => by
      obtain ⟨⟨q0, q1, q2, q3, q4, q5, q6⟩, -⟩ := HY.out w2 hB
      rw [Nat.zero_add]
      have hj7 : j < 7 := hj
      match j, hj7 with
      | 0, _ => exact ⟨_, q0⟩
      | 1, _ => exact ⟨_, q1⟩
      | 2, _ => exact ⟨_, q2⟩
      | 3, _ => exact ⟨_, q3⟩
      | 4, _ => exact ⟨_, q4⟩
      | 5, _ => exact ⟨_, q5⟩
      | 6, _ => exact ⟨_, q6⟩)
    have HE2 : Hid _ := hE2
    have HB2 : Hid _ := hB2
    have HSz : Hid _ := hsz
    obtain ⟨fl', nm', pl', ia', ic', ins', oa', oc', outs', va', vc', vars', qa', qc', eqs'⟩ := y
    generalize hWf : setRow w2 (w.heap.size + 1) 0 (Nd.cells ⟨fl', nm', pl', ia', ic', ins', oa', oc', outs', va', vc', vars', qa', qc', eqs'⟩) = Wf at *
    have t0 : Wf.cell? ⟨w.heap.size + 1, 0, none⟩ = some (.bool fl') := hcl 0 (by omega)
    have t1 : Wf.cell? ⟨w.heap.size + 1, 1, none⟩ = some (.string nm') := hcl 1 (by omega)
    have t2 : Wf.cell? ⟨w.heap.size + 1, 2, none⟩ = some (.int .i64 pl') := hcl 2 (by omega)
    have t3 : Wf.cell? ⟨w.heap.size + 1, 3, none⟩ = some (.slice ia' ins'.length ic') := hcl 3 (by omega)
    have t4 : Wf.cell? ⟨w.heap.size + 1, 4, none⟩ = some (.slice oa' outs'.length oc') := hcl 4 (by omega)
    have t5 : Wf.cell? ⟨w.heap.size + 1, 5, none⟩ = some (.slice va' vars'.length vc') := hcl 5 (by omega)
    have t6 : Wf.cell? ⟨w.heap.size + 1, 6, none⟩ = some (.slice qa' eqs'.length qc') := hcl 6 (by omega)
    clear hcl hWf hkeep hE hB hE2 hB2 hsz hcut x0 x1 x2 x3 x4 x5 x6
    go_wp2_with fail
    refine bodyPost_ret (v := .agg #[.bool fl', .string nm', .int .i64 pl', .slice ia' ins'.length ic', .slice oa' outs'.length oc', .slice va' vars'.length vc', .slice qa' eqs'.length qc']) (by simp [results, Tryd.results45, go_sem, *]; try rfl) rfl ⟨⟨fl', nm', pl', ia', ic', ins', oa', oc', outs', va', vc', vars', qa', qc', eqs'⟩, rfl, ?_, HB2.out⟩
    rw [HSz.out]
    exact HE2.out
theorem nodesCopied_calls (l : List Nd) (a : Option Addr) (cap : Nat) (w : World) (hl : Lie w a l) (hg : Goods l) : Calls Tryd.prog 44 #[.slice a l.length cap, .func (.func 45) #[] #[]] w fun x w' => ∃ a' c' ys, x = .returned (.slice a' l.length c') ∧ RowOf Nd.cells 7 NdCp w.heap.size w'.heap.size w' a' l ys ∧ Below w.heap.size w w' :=
  (copiedNode_calls 45 (enters_of Tryd.func45 (by kernel_rfl) rfl) l a cap w (fun k ys W => ys.length = k ∧ Chain NdCp (w.heap.size + 1) W.heap.size l ys W) hl.1 hg.2.1 (fun W _ hlt => ⟨rfl, chain_nil (by omega)⟩) (fun k ys W j v hr _ => ⟨hr.1, chain_set ndCp_keepP hr.2⟩)
    (fun k hk ys W hl' hr hb _ => (copyNode_calls l[k] (hg.1 _ (List.getElem_mem hk)) W (Nd.lies_below (hl.2 _ (List.getElem_mem hk)) hb)).mono fun x W' ⟨y, h1, h2, h3⟩ => ⟨y, h1, ⟨by simp [hl'], chain_snoc ndCp_keepP ndCp_monoP hr.2 hl' hk h3 h2⟩, h3⟩)).mono fun _ _ h => rowOf_made h
set_option maxRecDepth 100000 in
set_option maxHeartbeats 3200000 in
theorem copyProgram_calls (l : List Nd) (a : Option Addr) (cap : Nat) (w : World) (hl : Lie w a l) (hg : Goods l) : Calls Tryd.prog 18 #[.agg #[.slice a l.length cap]] w fun x w' => ∃ a' c' ys, x = .returned (.agg #[.slice a' l.length c']) ∧ RowOf Nd.cells 7 NdCp w.heap.size w'.heap.size w' a' l ys ∧ Below w.heap.size w w' := by
  have CC : Hid (∀ W, Below w.heap.size w W → Calls Tryd.prog 44 #[.slice a l.length cap, .func (.func 45) #[] #[]] W fun x w' => ∃ a' c' ys, x = .returned (.slice a' l.length c') ∧ RowOf Nd.cells 7 NdCp W.heap.size w'.heap.size w' a' l ys ∧ Below W.heap.size W w') := fun W hW => nodesCopied_calls l a cap W (hl.below hW) hg
  clear hl hg
  have C1 := CC.out _ (((Below.refl w.heap.size w).alloc (Nat.le_refl _) (.cells #[.slice a l.length cap] 25)).alloc (by simp) (.cells #[.slice none 0 0] 25))
  clear CC
  go_enter Tryd.func18, Tryd.ntmps18
  go_wp2_with fail
  refine C1.mono ?_
  rintro x w2 ⟨a', c', ys, rfl, hr, hb⟩
  have hz : w.heap.size + 1 < w2.heap.size := by have := hb.size; simp at this; omega
  have HB : Hid (Below w.heap.size w w2) := (((Below.refl _ _).alloc (Nat.le_refl _) _).alloc (by simp) _).trans (hb.mono (by simp; omega))
  have d0 : w2.cell? ⟨w.heap.size + 1, 0, none⟩ = some (.slice none 0 0) := (hb.cell (p := ⟨w.heap.size + 1, 0, none⟩) (by simp)).trans (by simp)
  have f0 : w2.frozen? ⟨w.heap.size + 1, 0, none⟩ = false := (hb.frozen (p := ⟨w.heap.size + 1, 0, none⟩) (by simp)).trans (by simp)
  have HR : Hid (RowOf Nd.cells 7 NdCp (w.heap.size + 2) w2.heap.size w2 a' l ys) := by
    have h2 : ((w.alloc (.cells #[.slice a l.length cap] 25)).alloc (.cells #[.slice none 0 0] 25)).heap.size = w.heap.size + 2 := by simp
    rw [h2] at hr
    exact hr
  clear hr hb C1
  go_wp2_with fail
  refine bodyPost_ret (v := .agg #[.slice a' l.length c']) (by simp [results, Tryd.results18, go_sem, *]; try rfl) rfl ⟨a', c', ys, rfl, ?_, HB.out.setCell (p := ⟨w.heap.size + 1, 0, none⟩) (Nat.le_succ _) _⟩
  have h3 := (HR.out.keep ndCp_keepP (w' := w2.setCell ⟨w.heap.size + 1, 0, none⟩ (.slice a' l.length c')) (fun x h1 _ => Below.heap_setCell _ _ _ _ (show x ≠ w.heap.size + 1 by omega)) (by simp)).mono (lo' := w.heap.size) (by omega) (Nat.le_refl _)
  simpa using h3
end Go.Proofs.YthbjagmlcemefaaDoor
/- A program's copy, in plain words: it is the same, it lies where it says, and what of it is where. -/
namespace Go.Proofs.YthbjagmlcemefaaDoor
open Go.RowKit
open Ex.size Ex.depth Ex.lies Ex.bulk Ex.good Ex.like Ex.inR Ex.skel
theorem textEq_self (s : ByteArray) : textEq s s = true := by simp [textEq]
theorem likeB_self {α : Type} {f : α → α → Bool} (h : ∀ x, f x x = true) : ∀ l : List α, likeB f l l = true
  | [] => rfl
  | x :: r => by simp only [likeB, h x, likeB_self h r, Bool.and_true]
theorem likeB_of {α : Type} {f : α → α → Bool} : ∀ (l l' : List α), l.length = l'.length → (∀ i (h : i < l.length) (h' : i < l'.length), f l[i] l'[i] = true) → likeB f l l' = true
  | [], [], _, _ => rfl
  | x :: r, y :: s, hl, h => by
    have h0 := h 0 (by simp) (by simp)
    simp only [List.getElem_cons_zero] at h0
    simp only [likeB, h0, Bool.true_and]
    exact likeB_of r s (by simpa using hl) fun i h1 h2 => by
      have := h (i + 1) (by simpa using h1) (by simpa using h2)
      simpa using this
theorem pmSame_self (p : Pm) : pmSame p p = true := by simp [pmSame, textEq_self]
theorem eqSame_cp {lo hi : Nat} {w : World} {y q : Eqn} (h : EqCp lo hi w y q) : eqSame q y = true := by
  rw [eqSame, h.ns, likeB_self textEq_self, like_same (like_symm h.like)]
  rfl
theorem chain_get {α : Type} {P : Nat → Nat → World → α → α → Prop} {lo hi : Nat} {l ys : List α} {W : World} (h : Chain P lo hi l ys W) (i : Nat) (h1 : i < ys.length) (h2 : i < l.length) : ∃ a b, P a b W ys[i] l[i] := by
  obtain ⟨t, -, -, -, h4⟩ := h
  exact ⟨_, _, h4 i h1 h2⟩
theorem rowOf_get {α : Type} {f : α → List Value} {z : Nat} {P : Nat → Nat → World → α → α → Prop} {lo hi : Nat} {w : World} {a' : Option Addr} {l ys : List α} (h : RowOf f z P lo hi w a' l ys) (i : Nat) (h1 : i < ys.length) (h2 : i < l.length) : ∃ a b, P a b w ys[i] l[i] := by
  obtain ⟨g, -, -, -, hc⟩ := h.blk (by intro h; rw [h] at h1; simp at h1)
  exact chain_get hc i h1 h2
theorem ndSame_cp {lo hi : Nat} {w : World} {y n : Nd} (h : NdCp lo hi w y n) : ndSame n y = true := by
  have hq : likeB eqSame n.eqs y.eqs = true := likeB_of _ _ h.eqs.len.symm fun i h1 h2 => by obtain ⟨_, _, k⟩ := rowOf_get h.eqs i h2 h1; exact eqSame_cp k
  rw [ndSame, h.fl, h.nm, h.insE, h.outsE, h.varsE, textEq_self, likeB_self pmSame_self, likeB_self pmSame_self, likeB_self pmSame_self, hq]
  simp
theorem eqn_good_cp {lo hi : Nat} {w : World} {y q : Eqn} (h : EqCp lo hi w y q) (hg : q.good) : y.good := ⟨by rw [h.ns]; exact hg.1, by rw [h.ns]; exact hg.2.1, h.good, by rw [like_bulk h.like]; exact hg.2.2.2⟩
theorem nd_good_cp {lo hi : Nat} {w : World} {y n : Nd} (h : NdCp lo hi w y n) (hg : n.good) : y.good := by
  obtain ⟨g1, g2, g3, g4, g5, g6, g7, g8, g9⟩ := hg
  refine ⟨by rw [h.nm]; exact g1, by rw [h.insE]; exact g2, by rw [h.outsE]; exact g3, by rw [h.varsE]; exact g4, by rw [h.eqs.len]; exact g5, by rw [h.insE]; exact g6, by rw [h.outsE]; exact g7, by rw [h.varsE]; exact g8, fun q hq => ?_⟩
  obtain ⟨i, hi, rfl⟩ := List.getElem_of_mem hq
  have hi' : i < n.eqs.length := by rw [← h.eqs.len]; exact hi
  obtain ⟨_, _, k⟩ := rowOf_get h.eqs i hi hi'
  exact eqn_good_cp k (g9 _ (List.getElem_mem hi'))
theorem nd_lies_cp {lo hi : Nat} {w : World} {y n : Nd} (h : NdCp lo hi w y n) : y.lies w := by
  refine ⟨h.ins.1, h.outs.1, h.vars.1, h.eqs.row, fun q hq => ?_⟩
  obtain ⟨i, hi, rfl⟩ := List.getElem_of_mem hq
  obtain ⟨_, _, k⟩ := rowOf_get h.eqs i hi (by rw [← h.eqs.len]; exact hi)
  exact ⟨k.names, k.lies⟩
theorem eqSizes_of : ∀ (l l' : List Eqn), l.length = l'.length → (∀ i (h : i < l.length) (h' : i < l'.length), l[i].e.size = l'[i].e.size) → eqSizes l = eqSizes l'
  | [], [], _, _ => rfl
  | x :: r, y :: s, hl, h => by
    have h0 := h 0 (by simp) (by simp)
    simp only [List.getElem_cons_zero] at h0
    simp only [eqSizes, h0, eqSizes_of r s (by simpa using hl) fun i h1 h2 => by
      have := h (i + 1) (by simpa using h1) (by simpa using h2)
      simpa using this]
theorem ndSizes_of : ∀ (l l' : List Nd), l.length = l'.length → (∀ i (h : i < l.length) (h' : i < l'.length), eqSizes l[i].eqs = eqSizes l'[i].eqs) → ndSizes l = ndSizes l'
  | [], [], _, _ => rfl
  | x :: r, y :: s, hl, h => by
    have h0 := h 0 (by simp) (by simp)
    simp only [List.getElem_cons_zero] at h0
    simp only [ndSizes, h0, ndSizes_of r s (by simpa using hl) fun i h1 h2 => by
      have := h (i + 1) (by simpa using h1) (by simpa using h2)
      simpa using this]
theorem prog_copy {lo hi : Nat} {w : World} {a' : Option Addr} {l ys : List Nd} (h : RowOf Nd.cells 7 NdCp lo hi w a' l ys) (hg : Goods l) : Goods ys ∧ Lie w a' ys ∧ likeB ndSame l ys = true := by
  have get : ∀ i (h1 : i < ys.length) (h2 : i < l.length), ∃ a b, NdCp a b w ys[i] l[i] := fun i h1 h2 => rowOf_get h i h1 h2
  have hmem : ∀ n ∈ ys, ∃ a b m, m ∈ l ∧ NdCp a b w n m := fun n hn => by
    obtain ⟨i, hi, rfl⟩ := List.getElem_of_mem hn
    have hi' : i < l.length := by rw [← h.len]; exact hi
    obtain ⟨a, b, k⟩ := get i hi hi'
    exact ⟨a, b, _, List.getElem_mem hi', k⟩
  refine ⟨⟨fun n hn => ?_, by rw [h.len]; exact hg.2.1, ?_⟩, ⟨h.row, fun n hn => ?_⟩, likeB_of _ _ h.len.symm fun i h1 h2 => ?_⟩
  · obtain ⟨_, _, m, hm, k⟩ := hmem n hn
    exact nd_good_cp k (hg.1 m hm)
  · rw [ndSizes_of ys l h.len fun i h1 h2 => ?_]
    · exact hg.2.2
    · obtain ⟨_, _, k⟩ := get i h1 h2
      exact eqSizes_of _ _ k.eqs.len fun j j1 j2 => by
        obtain ⟨_, _, k2⟩ := rowOf_get k.eqs j j1 j2
        exact like_size k2.like
  · obtain ⟨_, _, _, _, k⟩ := hmem n hn
    exact nd_lies_cp k
  · obtain ⟨_, _, k⟩ := get i h2 h1
    exact ndSame_cp k
/-- Where the equations of a node's copy are: the row, and how far each goes. -/
structure Zone (W : World) (lo hi : Nat) (y n : Nd) (g : Nat) (t : Nat → Nat) : Prop where
  low : lo ≤ t 0
  mono : ∀ i, i < y.eqs.length → t i ≤ t (i + 1)
  high : t y.eqs.length ≤ hi
  row : y.eqs ≠ [] → y.qa = some ⟨g, 0, none⟩ ∧ lo ≤ g ∧ g < t 0 ∧ rowAt Eqn.cells 8 W g 0 y.eqs
  eqs : ∀ i (h : i < y.eqs.length) (h' : i < n.eqs.length), EqCp (t i) (t (i + 1)) W y.eqs[i] n.eqs[i]
theorem zone_of {lo hi : Nat} {W : World} {y n : Nd} (h : NdCp lo hi W y n) (hlh : lo ≤ hi) : ∃ g t, Zone W lo hi y n g t := by
  by_cases hne : y.eqs = []
  · exact ⟨0, fun _ => hi, hlh, fun i h => by rw [hne] at h; simp at h, Nat.le_refl _, fun h => absurd hne h, fun i h => by rw [hne] at h; simp at h⟩
  · obtain ⟨g, k1, k2, k3, t, t1, t2, t3, t4⟩ := h.eqs.blk hne
    obtain ⟨b, o, r1, r2, r3⟩ := h.eqs.row hne
    have e3 : b = g ∧ o = 0 := by have := r1.symm.trans k1; injection this with this; injection this; exact ⟨by assumption, by assumption⟩
    obtain ⟨rfl, rfl⟩ := e3
    exact ⟨b, t, by omega, t2, t3, fun _ => ⟨k1, k2, by omega, r3⟩, t4⟩
/-- Where the nodes of a copy are. -/
structure Zones (W : World) (lo hi : Nat) (a' : Option Addr) (l ys : List Nd) (G : Nat) (T : Nat → Nat) : Prop where
  low : lo ≤ G
  first : G < T 0
  mono : ∀ i, i < ys.length → T i ≤ T (i + 1)
  row : ys ≠ [] → a' = some ⟨G, 0, none⟩ ∧ G < hi ∧ T ys.length ≤ hi ∧ rowAt Nd.cells 7 W G 0 ys
  none : ys = [] → hi ≤ G
  nds : ∀ i (h : i < ys.length) (h' : i < l.length), NdCp (T i) (T (i + 1)) W ys[i] l[i]
theorem zones_of {lo hi : Nat} {W : World} {a' : Option Addr} {l ys : List Nd} (h : RowOf Nd.cells 7 NdCp lo hi W a' l ys) (hlh : lo ≤ hi) : ∃ G T, Zones W lo hi a' l ys G T := by
  by_cases hne : ys = []
  · exact ⟨hi, fun _ => hi + 1, hlh, Nat.lt_succ_self _, fun i h => by rw [hne] at h; simp at h, fun h => absurd hne h, fun _ => Nat.le_refl _, fun i h => by rw [hne] at h; simp at h⟩
  · obtain ⟨g, k1, k2, k3, t, t1, t2, t3, t4⟩ := h.blk hne
    obtain ⟨b, o, r1, r2, r3⟩ := h.row hne
    have e3 : b = g ∧ o = 0 := by have := r1.symm.trans k1; injection this with this; injection this; exact ⟨by assumption, by assumption⟩
    obtain ⟨rfl, rfl⟩ := e3
    exact ⟨b, t, k2, by omega, t2, fun _ => ⟨k1, k3, t3, r3⟩, fun h => absurd h hne, t4⟩
theorem Zones.to {W : World} {lo hi : Nat} {a' : Option Addr} {l ys : List Nd} {G : Nat} {T : Nat → Nat} (h : Zones W lo hi a' l ys G T) (i : Nat) (hi' : i ≤ ys.length) : G < T i ∧ (hi ≤ G ∨ T i ≤ hi) := by
  have h1 := chain_le h.mono i hi' 0 (by omega)
  refine ⟨by have := h.first; omega, ?_⟩
  by_cases hne : ys = []
  · exact .inl (h.none hne)
  · have h2 := (h.row hne).2.2.1
    have h3 := chain_le h.mono ys.length (Nat.le_refl _) i hi'
    exact .inr (by omega)
/-- What of the copy is as it was, ahead of a node; ahead of an equation. -/
def zN (G : Nat) (T : Nat → Nat) (i b : Nat) : Prop := b ≤ G ∨ T i ≤ b
def zE (G lo g : Nat) (t : Nat → Nat) (k b : Nat) : Prop := b ≤ G ∨ (lo ≤ b ∧ b ≤ g) ∨ t k ≤ b
/-- How a world stands to the one in which the copy was made: what of that is as it was. -/
structure CIn (w W3 : World) (Z : Nat → Prop) (wr : World) : Prop where
  below : Below w.heap.size w wr
  size : W3.heap.size ≤ wr.heap.size
  clean : ∀ b, b < W3.heap.size → Z b → wr.heap[b]? = W3.heap[b]?
theorem CIn.grow {w W3 wr wr' : World} {Z : Nat → Prop} (h : CIn w W3 Z wr) (hb : Below wr.heap.size wr wr') : CIn w W3 Z wr' :=
  ⟨h.below.trans (hb.mono h.below.size), Nat.le_trans h.size hb.size, fun b h1 h2 => (hb.block b (Nat.lt_of_lt_of_le h1 h.size)).trans (h.clean b h1 h2)⟩
theorem CIn.spoil {w W3 wr wr' : World} {Z Z' : Nat → Prop} {lo hi : Nat} (h : CIn w W3 Z wr) (hb : ButIn lo hi wr wr') (hlo : w.heap.size ≤ lo) (hZ : ∀ b, b < W3.heap.size → Z' b → Z b ∧ ¬ (lo ≤ b ∧ b < hi)) : CIn w W3 Z' wr' :=
  ⟨h.below.trans (hb.below hlo h.below.size), Nat.le_trans h.size hb.size, fun b h1 h2 => (hb.block b (Nat.lt_of_lt_of_le h1 h.size) (hZ b h1 h2).2).trans (h.clean b h1 (hZ b h1 h2).1)⟩
theorem CIn.imp {w W3 wr : World} {Z Z' : Nat → Prop} (h : CIn w W3 Z wr) (hZ : ∀ b, b < W3.heap.size → Z' b → Z b) : CIn w W3 Z' wr := ⟨h.below, h.size, fun b h1 h2 => h.clean b h1 (hZ b h1 h2)⟩
theorem CIn.cell {w W3 wr : World} {Z : Nat → Prop} (h : CIn w W3 Z wr) {b o : Nat} (h1 : b < W3.heap.size) (h2 : Z b) : wr.cell? ⟨b, o, none⟩ = W3.cell? ⟨b, o, none⟩ := World.cell?_of_block (h.clean b h1 h2)
end Go.Proofs.YthbjagmlcemefaaDoor
/- The statements' own look at how much a program is: whatever it answers, it answers, and changes nothing. -/
namespace Go.Proofs.YthbjagmlcemefaaDoor
open Go.RowKit
open Ex.size Ex.depth Ex.lies Ex.bulk Ex.good Ex.shape
attribute [local go_sem] later_size later_cell later_frozen later_setCell later_drew later_drewN later_tape drewN_setCell drewN_alloc drewN_later later_later lt_more lt_more1 lt_more2 lt_more3 lt_more4 lk0_0_1 lk1_0_1 lk2_0_1 lk0_0_2 lk1_0_2 lk2_0_2 lk0_1_2 lk0_0_3 lk1_0_3 lk2_0_3 lk0_1_3 lk0_2_3 lk0_0_4 lk1_0_4 lk2_0_4 lk0_1_4 lk0_2_4 lk0_3_4 lk0_0_5 lk1_0_5 lk2_0_5 lk0_1_5 lk0_2_5 lk0_3_5 lk0_4_5 lk0_0_6 lk1_0_6 lk2_0_6 lk0_1_6 lk0_2_6 lk0_3_6 lk0_4_6 lk0_5_6 lk0_0_7 lk1_0_7 lk2_0_7 lk0_1_7 lk0_2_7 lk0_3_7 lk0_4_7 lk0_5_7 lk0_6_7
def SomeInt (x : Ending) : Prop := ∃ i : Int, x = .returned (.int .i64 i)
set_option maxRecDepth 100000 in
set_option maxHeartbeats 6400000 in
theorem lawParams_calls (l : List Pm) (a : Option Addr) (cap : Nat) (hn : l.length ≤ 1048576) (w : World) (hl : rowIn Pm.cells 7 w a l) :
    Calls Tryd.prog 37 #[.slice a l.length cap] w fun x w' => SomeInt x ∧ w' = w := by
  obtain ⟨n, hN⟩ : ∃ n, n = l.length := ⟨_, rfl⟩
  rw [← hN] at hn ⊢
  have HN : Hid (n = l.length) := hN
  have HL : Hid (rowIn Pm.cells 7 w a l) := hl
  clear hN hl
  go_enter Tryd.func37, Tryd.ntmps37
  go_wp2_with fail
  go_loopw [3, 4] (fun s i wr => ∃ (k : Nat) (x : Int), k ≤ n ∧ i = .int .i64 k ∧ s = .int .i64 x ∧ wr = w) (fun _ i _ => n - (intOf i).toNat)
  case atStart => exact ⟨0, 0, by omega, rfl, rfl, rfl⟩
  case round =>
    obtain ⟨k, x, hk, rfl, rfl, rfl⟩ := hrel
    by_cases hlt : k < n
    · have hkl : k < l.length := by rw [← HN.out]; exact hlt
      obtain ⟨b, o, rfl, hbl, hrow⟩ := HL.out (by intro h; rw [h] at hkl; simp at hkl)
      have c0 : wr.cell? ⟨b, o + k * 7, none⟩ = some (.string l[k].nm) := hrow k hkl 0 (by omega)
      by_cases hx : x ≤ 8192
      · go_wp2_with fail
        all_goals
          (go_roundw
           case rel => exact ⟨k + 1, _, by omega, by go_num, rfl, by first | rfl | trivial⟩
           case measure => simp [intOf]; omega)
      · go_wp2_with fail
        go_ret
        exact ⟨⟨_, rfl⟩, rfl⟩
    · obtain rfl : k = n := by omega
      go_wp2_with fail
      all_goals go_ret
      all_goals exact ⟨⟨_, rfl⟩, rfl⟩
/-- The weight of params, whatever it is. -/
structure ParIs (w : World) (v : Value) : Prop where
  out : ∀ w', Hid (Below w.heap.size w w') → Calls Tryd.prog 37 #[v] w' fun x w'' => SomeInt x ∧ w'' = w'
def SomeBool (x : Ending) : Prop := ∃ q : Bool, x = .returned (.bool q)
set_option maxRecDepth 100000 in
set_option maxHeartbeats 12800000 in
theorem large_calls (l : List Nd) (a : Option Addr) (cap : Nat) (hg : Goods l) (w : World) (hl : Lie w a l) : Calls Tryd.prog 12 #[.agg #[.slice a l.length cap]] w fun x w' => SomeBool x ∧ Below w.heap.size w w' := by
  have HG : Hid (∀ x ∈ l, x.good) := hg.1
  have HL : Hid (Lie w a l) := hl
  obtain ⟨n, hN⟩ : ∃ n, n = l.length := ⟨_, rfl⟩
  have hn : n ≤ 1048576 := by rw [hN]; exact hg.2.1
  have HN : Hid (n = l.length) := hN
  rw [← hN]
  obtain ⟨W0, hW0⟩ : ∃ W0 : World, W0 = w.alloc (.cells #[.slice a n cap] 25) := ⟨_, rfl⟩
  have HB0 : Hid (Below w.heap.size w W0) := by rw [hW0]; exact (Below.refl _ _).alloc (Nat.le_refl _) _
  have HS0 : Hid (W0.heap.size = w.heap.size + 1) := by rw [Hid, hW0]; simp
  have HX0 : Hid (W0.cell? ⟨w.heap.size, 0, none⟩ = some (.slice a n cap)) := by rw [Hid, hW0, World.cell?_alloc_at _ _ _ _ rfl]; rfl
  have HW0 : Hid _ := hW0
  clear hN hg hl hW0
  go_enter Tryd.func12, Tryd.ntmps12
  go_wp2_with fail
  rw [← HW0.out]
  go_loopw [3, 4] (fun s i wr => ∃ (k : Nat) (x : Int), k ≤ n ∧ i = .int .i64 k ∧ s = .int .i64 x ∧ Hid (Below (w.heap.size + 1) W0 wr) ∧ wr.cell? ⟨w.heap.size, 0, none⟩ = some (.slice a n cap)) (fun _ i _ => n - (intOf i).toNat)
  case atStart => exact ⟨0, 0, by omega, rfl, rfl, Below.refl _ _, HX0.out⟩
  case round =>
    obtain ⟨k, x, hk, rfl, rfl, HX, hx0⟩ := hrel
    have HB : Hid (Below w.heap.size w wr) := HB0.out.trans (HX.out.mono (by omega))
    have HSz : Hid (w.heap.size + 1 ≤ wr.heap.size) := by have h1 := HX.out.size; have h2 := HS0.out; rw [Hid]; omega
    by_cases hlt : k < n
    · by_cases hx : x ≤ 8192
      · have hkl : k < l.length := by rw [← HN.out]; exact hlt
        obtain ⟨b, o, rfl, hbl, hrow⟩ := HL.out.1 (by intro h; rw [h] at hkl; simp at hkl)
        have hcr : ∀ j, j < 7 → wr.cell? ⟨b, o + k * 7 + j, none⟩ = l[k].cells[j]? := fun j hj => (HB.out.cell (p := ⟨b, o + k * 7 + j, none⟩) hbl).trans (hrow k hkl j hj)
        have hgk := HG.out _ (List.getElem_mem hkl)
        have hlk := HL.out.2 _ (List.getElem_mem hkl)
        obtain ⟨W1, hW1⟩ : ∃ W1 : World, W1 = wr.alloc (.cells l[k].cells.toArray 29) := ⟨_, rfl⟩
        have hbW1 : Below wr.heap.size wr W1 := by rw [hW1]; exact (Below.refl _ _).alloc (Nat.le_refl _) _
        have hcW1 : ∀ j, j < 7 → W1.cell? ⟨wr.heap.size, j, none⟩ = l[k].cells[j]? := fun j hj => by rw [hW1]; exact cell_alloc_eq rfl
        have HQs : Hid (∀ x ∈ l[k].eqs, x.good) := hgk.2.2.2.2.2.2.2.2
        have HQL : Hid (rowIn Eqn.cells 8 w l[k].qa l[k].eqs ∧ ∀ q ∈ l[k].eqs, q.lies w) := hlk.2.2.2
        have P1 : ParIs w (.slice l[k].ia l[k].ins.length l[k].ic) := ⟨fun w' h => lawParams_calls _ _ _ hgk.2.1 w' (rowIn_below hlk.1 h)⟩
        have P2 : ParIs w (.slice l[k].oa l[k].outs.length l[k].oc) := ⟨fun w' h => lawParams_calls _ _ _ hgk.2.2.1 w' (rowIn_below hlk.2.1 h)⟩
        have P3 : ParIs w (.slice l[k].va l[k].vars.length l[k].vc) := ⟨fun w' h => lawParams_calls _ _ _ hgk.2.2.2.1 w' (rowIn_below hlk.2.2.1 h)⟩
        have hqn : l[k].eqs.length ≤ 1048576 := hgk.2.2.2.2.1
        have hnm : l[k].nm.size ≤ 1048576 := hgk.1
        clear hlk hgk
        generalize l[k] = y at *
        obtain ⟨fl, nm, pl, ia, ic, ins, oa, oc, outs, va, vc, vars, qa, qc, eqs⟩ := y
        have c0 : wr.cell? ⟨b, o + k * 7, none⟩ = some (.bool fl) := hcr 0 (by omega)
        have c1 : wr.cell? ⟨b, o + k * 7 + 1, none⟩ = some (.string nm) := hcr 1 (by omega)
        have c2 : wr.cell? ⟨b, o + k * 7 + 2, none⟩ = some (.int .i64 pl) := hcr 2 (by omega)
        have c3 : wr.cell? ⟨b, o + k * 7 + 3, none⟩ = some (.slice ia ins.length ic) := hcr 3 (by omega)
        have c4 : wr.cell? ⟨b, o + k * 7 + 4, none⟩ = some (.slice oa outs.length oc) := hcr 4 (by omega)
        have c5 : wr.cell? ⟨b, o + k * 7 + 5, none⟩ = some (.slice va vars.length vc) := hcr 5 (by omega)
        have c6 : wr.cell? ⟨b, o + k * 7 + 6, none⟩ = some (.slice qa eqs.length qc) := hcr 6 (by omega)
        have e1 : W1.cell? ⟨wr.heap.size, 1, none⟩ = some (.string nm) := hcW1 1 (by omega)
        have e3 : W1.cell? ⟨wr.heap.size, 3, none⟩ = some (.slice ia ins.length ic) := hcW1 3 (by omega)
        have e4 : W1.cell? ⟨wr.heap.size, 4, none⟩ = some (.slice oa outs.length oc) := hcW1 4 (by omega)
        have e5 : W1.cell? ⟨wr.heap.size, 5, none⟩ = some (.slice va vars.length vc) := hcW1 5 (by omega)
        have e6 : W1.cell? ⟨wr.heap.size, 6, none⟩ = some (.slice qa eqs.length qc) := hcW1 6 (by omega)
        have v0 : W1.cell? ⟨w.heap.size, 0, none⟩ = some (.slice (some ⟨b, o, none⟩) n cap) := (hbW1.cell (p := ⟨w.heap.size, 0, none⟩) HSz.out).trans hx0
        simp only at HQs HQL hqn hnm
        obtain ⟨m, hM⟩ : ∃ m, m = eqs.length := ⟨_, rfl⟩
        have HM : Hid (m = eqs.length) := hM
        simp only [Nd.cells, List.toArray] at hW1
        simp only [← hM] at hW1 c6 e6 hqn
        have HW1 : Hid _ := hW1
        have HX1 : Hid (Below (w.heap.size + 1) W0 W1) := HX.out.trans (hbW1.mono HSz.out)
        have HB1 : Hid (Below w.heap.size w W1.drew) := Below.drew (HB.out.trans (hbW1.mono HB.out.size))
        clear hcr hrow hM hW1 hbW1 hcW1
        go_wp2_with fail
        rw [← HW1.out]
        generalize hB1 : wr.heap.size = B1 at *
        clear c0 c1 c2 c3 c4 c5 c6 HW1
        go_region_held3 (fun w' => Hid (Below w.heap.size w w') ∧ w'.cell? ⟨B1, 1, none⟩ = some (.string nm) ∧ w'.cell? ⟨B1, 3, none⟩ = some (.slice ia ins.length ic) ∧ w'.cell? ⟨B1, 4, none⟩ = some (.slice oa outs.length oc) ∧ w'.cell? ⟨B1, 5, none⟩ = some (.slice va vars.length vc)) (go_simp) (first
          | (go_at_call 37; refine (ParIs.out (by assumption) _ (by assumption)).mono ?_; rintro r w5 ⟨⟨i5, rfl⟩, rfl⟩))
        have HX1d : Hid (Below (w.heap.size + 1) W0 W1.drew) := Below.drew HX1.out
        have v0d : W1.drew.cell? ⟨w.heap.size, 0, none⟩ = some (.slice (some ⟨b, o, none⟩) n cap) := v0
        have e6d : W1.drew.cell? ⟨B1, 6, none⟩ = some (.slice qa m qc) := e6
        clear e1 e3 e4 e5 P1 P2 P3
        go_wp2_with fail
        go_loopw [3, 6] (fun s i wq => ∃ (j : Nat) (x : Int), j ≤ m ∧ i = .int .i64 j ∧ s = .int .i64 x ∧ Hid (Below (w.heap.size + 1) W0 wq) ∧ wq.cell? ⟨w.heap.size, 0, none⟩ = some (.slice (some ⟨b, o, none⟩) n cap) ∧ wq.cell? ⟨B1, 6, none⟩ = some (.slice qa m qc)) (fun _ i _ => m - (intOf i).toNat)
        case atStart => exact ⟨0, _, by omega, rfl, rfl, HX1d, v0d, e6d⟩
        case round =>
          obtain ⟨j, x2, hj, rfl, rfl, HXq, hv0, he6⟩ := hrel
          have HBq : Hid (Below w.heap.size w wr) := HB0.out.trans (HXq.out.mono (by omega))
          by_cases hjl : j < m
          · by_cases hx2 : x2 ≤ 8192
            · have hjk : j < eqs.length := by rw [← HM.out]; exact hjl
              obtain ⟨b', o', rfl, hbl', hrow'⟩ := HQL.out.1 (by intro h; rw [h] at hjk; simp at hjk)
              have HCx : Hid (∀ W, Below w.heap.size w W → ∀ i, i < 8 → W.cell? ⟨b', o' + j * 8 + i, none⟩ = eqs[j].cells[i]?) := fun W h i hi => (h.cell (p := ⟨b', o' + j * 8 + i, none⟩) hbl').trans (hrow' j hjk i hi)
              have HGq := HQs.out _ (List.getElem_mem hjk)
              have HLq := HQL.out.2 _ (List.getElem_mem hjk)
              have C1 := weight_calls eqs[j].e.size eqs[j].e (Nat.le_refl _) HGq.2.2.2 wr (lies_below HBq.out _ HLq.2)
              have HNS : Hid (rowIn textOf 1 w eqs[j].na eqs[j].ns) := HLq.1
              have HGS : Hid (∀ s ∈ eqs[j].ns, s.size ≤ 1048576) := HGq.1
              have hnn : eqs[j].ns.length ≤ 1048576 := HGq.2.1
              clear HGq HLq hrow'
              generalize eqs[j] = y at *
              obtain ⟨na1, nc1, ns1, pq1, e1⟩ := y
              simp only at C1 HNS HGS hnn
              generalize e1.weigh = z1 at *
              obtain ⟨kd1, pl1, nm1, it1, dn1, a1, cap1, l1⟩ := e1
              obtain ⟨p, hP⟩ : ∃ p, p = ns1.length := ⟨_, rfl⟩
              have HP : Hid (p = ns1.length) := hP
              rw [← hP] at hnn
              have HNC : Hid (∀ W, Below w.heap.size w W → W.cell? ⟨b', o' + j * 8, none⟩ = some (.slice na1 p nc1)) := fun W h => by rw [hP]; exact HCx.out W h 0 (by omega)
              clear hP
              have d2 : wr.cell? ⟨b', o' + j * 8 + 2, none⟩ = some (.int .u8 kd1) := HCx.out wr HBq.out 2 (by omega)
              have d3 : wr.cell? ⟨b', o' + j * 8 + 2 + 1, none⟩ = some (.int .i64 pl1) := HCx.out wr HBq.out 3 (by omega)
              have d4 : wr.cell? ⟨b', o' + j * 8 + 2 + 2, none⟩ = some (.string nm1) := HCx.out wr HBq.out 4 (by omega)
              have d5 : wr.cell? ⟨b', o' + j * 8 + 2 + 3, none⟩ = some (.int .i64 it1) := HCx.out wr HBq.out 5 (by omega)
              have d6 : wr.cell? ⟨b', o' + j * 8 + 2 + 4, none⟩ = some (.int .i64 dn1) := HCx.out wr HBq.out 6 (by omega)
              have d7 : wr.cell? ⟨b', o' + j * 8 + 2 + 5, none⟩ = some (.slice a1 l1.length cap1) := HCx.out wr HBq.out 7 (by omega)
              simp only [Ex.val, Ex.cells, List.toArray] at C1
              go_wp2_with fail
              refine C1.mono ?_
              rintro x7 w7 ⟨rfl, hb7⟩
              have HX7 : Hid (Below (w.heap.size + 1) W0 w7) := HXq.out.trans (hb7.mono (by have h1 := HXq.out.size; have h2 := HS0.out; omega))
              have HB7 : Hid (Below w.heap.size w w7) := HBq.out.trans (hb7.mono HBq.out.size)
              have hv7 : w7.cell? ⟨w.heap.size, 0, none⟩ = some (.slice (some ⟨b, o, none⟩) n cap) := (hb7.cell (p := ⟨w.heap.size, 0, none⟩) (World.block_lt_of_cell? wr ⟨w.heap.size, 0, none⟩ hv0)).trans hv0
              have he7 : w7.cell? ⟨B1, 6, none⟩ = some (.slice (some ⟨b', o', none⟩) m qc) := (hb7.cell (p := ⟨B1, 6, none⟩) (World.block_lt_of_cell? wr ⟨B1, 6, none⟩ he6)).trans he6
              have hd0 := HNC.out w7 HB7.out
              clear C1 hb7 d2 d3 d4 d5 d6 d7 hv0 he6 HXq HBq
              go_wp2_with fail
              go_loopw [3, 7] (fun s i wq => ∃ (t : Nat) (x : Int), t ≤ p ∧ i = .int .i64 t ∧ s = .int .i64 x ∧ wq = w7) (fun _ i _ => p - (intOf i).toNat)
              case atStart => exact ⟨0, _, by omega, rfl, rfl, rfl⟩
              case round =>
                obtain ⟨t, x3, ht, rfl, rfl, rfl⟩ := hrel
                by_cases htp : t < p
                · by_cases hx3 : x3 ≤ 8192
                  · have htk : t < ns1.length := by rw [← HP.out]; exact htp
                    obtain ⟨b2, o2, rfl, hbl2, hrow2⟩ := HNS.out (by intro h; rw [h] at htk; simp at htk)
                    have c0 : wr.cell? ⟨b2, o2 + t, none⟩ = some (.string ns1[t]) := by
                      have := hrow2 t htk 0 (by omega)
                      rw [Nat.mul_one, Nat.add_zero] at this
                      exact (HB7.out.cell (p := ⟨b2, o2 + t, none⟩) hbl2).trans this
                    clear hrow2
                    go_wp2_with fail
                    all_goals
                      (go_roundw
                       case rel => exact ⟨t + 1, _, by omega, by go_num, rfl, by first | rfl | trivial⟩
                       case measure => simp [intOf]; omega)
                  · go_wp2_with fail
                    all_goals
                      (go_roundw
                       case rel => exact ⟨j + 1, _, by omega, by go_num, rfl, HX7, hv7, he7⟩
                       case measure => simp [intOf]; omega)
                · obtain rfl : t = p := by omega
                  go_wp2_with fail
                  all_goals
                    (go_roundw
                     case rel => exact ⟨j + 1, _, by omega, by go_num, rfl, HX7, hv7, he7⟩
                     case measure => simp [intOf]; omega)
            · go_wp2_with fail
              all_goals
                (go_roundw
                 case rel => exact ⟨k + 1, _, by omega, by go_num, rfl, HXq, hv0⟩
                 case measure => simp [intOf]; omega)
          · obtain rfl : j = m := by omega
            go_wp2_with fail
            all_goals
              (go_roundw
               case rel => exact ⟨k + 1, _, by omega, by go_num, rfl, HXq, hv0⟩
               case measure => simp [intOf]; omega)
      · go_wp2_with fail
        go_ret
        exact ⟨⟨_, rfl⟩, HB.out⟩
    · obtain rfl : k = n := by omega
      go_wp2_with fail
      all_goals go_ret
      all_goals exact ⟨⟨_, rfl⟩, HB.out⟩
end Go.Proofs.YthbjagmlcemefaaDoor
