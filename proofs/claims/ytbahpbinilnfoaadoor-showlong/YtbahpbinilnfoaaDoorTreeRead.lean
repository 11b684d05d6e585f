/- A walk whose visits change no tree: what is gathered is gathered in order, each expression ahead of its Args. -/
import Derived.Test.YtbahpbinilnfoaaDoorTreeWalk
import Derived.Test.YtbahpbinilnfoaaDoorExWeigh
import Derived.Shelf.Abstract
namespace Go.Proofs.YtbahpbinilnfoaaDoor
open Go.RowKit
open Ex.size Ex.depth Ex.lies Ex.bulk Ex.good
/-- All expressions in order, with their depths. -/
def Ex.pre : Nat → Ex → List (Ex × Nat)
  | d, .mk kd pl nm it dn a cap l => (.mk kd pl nm it dn a cap l, d) :: pres (d + 1) l
where pres : Nat → List Ex → List (Ex × Nat)
  | _, [] => []
  | d, e :: r => e.pre d ++ pres d r
open Ex.pre
theorem pre_eq (d : Nat) (e : Ex) : e.pre d = (e, d) :: pres (d + 1) e.args := by cases e; rfl
/-- What is left, in order: the last level first. -/
def frPre : List Fr → List (Ex × Nat)
  | [] => []
  | f :: r => frPre r ++ pres f.d f.l
theorem frPre_app (a b : List Fr) : frPre (a ++ b) = frPre b ++ frPre a := by
  induction a with
  | nil => simp [frPre]
  | cons f r ih => simp only [List.cons_append, frPre, ih, List.append_assoc]
theorem frPre_next (fs : List Fr) (b o c : Nat) (e : Ex) (l : List Ex) (d b' o' c' : Nat) : frPre (fs ++ [⟨b, o, c, e :: l, d⟩]) = (e, d) :: frPre (nextFrs fs b o c l d b' o' c' e.args) := by
  have h1 : frPre (if l = [] then [] else [⟨b, o + 6, c - 1, l, d⟩]) = pres d l := by
    split
    · rename_i h; rw [h]; rfl
    · simp [frPre]
  have h2 : frPre (if e.args = [] then [] else [⟨b', o', c', e.args, d + 1⟩]) = pres (d + 1) e.args := by
    split
    · rename_i h; rw [h]; rfl
    · simp [frPre]
  rw [nextFrs, frPre_app, frPre_app, frPre_app, h1, h2]
  simp [frPre, pres, pre_eq]
/-- Below B all is as it was but for some blocks. -/
structure ButSome (M : Nat → Prop) (B : Nat) (w w' : World) : Prop where
  os : w'.os = w.os
  tape : w'.tape = w.tape
  output : w'.output = w.output
  size : w.heap.size ≤ w'.heap.size
  block : ∀ k, k < B → ¬ M k → w'.heap[k]? = w.heap[k]?
theorem ButSome.refl (M : Nat → Prop) (B : Nat) (w : World) : ButSome M B w w := ⟨rfl, rfl, rfl, Nat.le_refl _, fun _ _ _ => rfl⟩
theorem ButSome.trans {M : Nat → Prop} {B : Nat} {a b c : World} (h : ButSome M B a b) (k : ButSome M B b c) : ButSome M B a c :=
  ⟨k.os.trans h.os, k.tape.trans h.tape, k.output.trans h.output, Nat.le_trans h.size k.size, fun i hi hm => (k.block i hi hm).trans (h.block i hi hm)⟩
theorem ButSome.of_levels {M : Nat → Prop} {B : Nat} {w w' : World} (h : ButLevels B w w') (hB : B ≤ w.heap.size) : ButSome M B w w' := ⟨h.os, h.tape, h.output, h.size, fun k hk _ => h.block k (by omega) (.inl hk)⟩
theorem ButSome.below {M : Nat → Prop} {B L : Nat} {w w' : World} (h : ButSome M B w w') (hL : L ≤ B) (hM : ∀ k, M k → L ≤ k) : Below L w w' := ⟨h.os, h.tape, h.output, h.size, fun k hk => h.block k (by omega) fun hm => by have := hM k hm; omega⟩
theorem ButSome.cell {M : Nat → Prop} {B : Nat} {w w' : World} (h : ButSome M B w w') {b o : Nat} (hb : b < B) (hm : ¬ M b) : w'.cell? ⟨b, o, none⟩ = w.cell? ⟨b, o, none⟩ := World.cell?_of_block (h.block b hb hm)
/-- A level of a tree that is not changed. -/
def Fr.still (M : Nat → Prop) (B : Nat) (w1 w0 : World) (f : Fr) : Prop :=
  f.b < B ∧ ¬ M f.b ∧ (∀ i (h : i < f.l.length) j, j < 6 → w0.cell? ⟨f.b, f.o + i * 6 + j, none⟩ = f.l[i].cells[j]?) ∧ ∀ x ∈ f.l, x.lies w1 ∧ x.good ∧ x.bulk ≤ 1048576
/-- What a visit that reads must do. -/
def Reads {σ : Type} (step : σ → Ex × Nat → σ) (C : σ → World → Prop) (fin : σ) (M : Nat → Prop) (w0 : World) (fn : Nat) (caps : Array Value) : Prop :=
  ∀ (s : σ) (x : Ex) (d b o : Nat) (w : World), C s w → ButSome M w0.heap.size w0 w → b < w0.heap.size → ¬ M b → (∀ j, j < 6 → w.cell? ⟨b, o + j, none⟩ = x.cells[j]?) → x.lies w → x.good → x.bulk ≤ 1048576 → d + x.size ≤ 1048577 →
    (∃ rest, List.foldl step (step s (x, d)) rest = fin) →
    Calls Tryd.prog fn (#[.pointer (some ⟨b, o, none⟩), .int .i64 d] ++ caps) w fun r w' => r = .returned (.tuple #[]) ∧ keepsLevels w w' ∧ ButSome M w0.heap.size w w' ∧ C (step s (x, d)) w'
theorem read_walk {σ : Type} (step : σ → Ex × Nat → σ) (C : σ → World → Prop) (s0 : σ) (M : Nat → Prop) (w1 w0 : World) (fn : Nat) (caps : Array Value) (e : Ex) (r c : Nat)
    (hent : ∀ args w, (callFunc fn args).run Tryd.prog w = .ok (.enter fn args) w)
    (hb1 : Below w1.heap.size w1 w0) (hM : ∀ k, M k → w1.heap.size ≤ k) (hC0 : C s0 w0)
    (hstab : ∀ s wa wb, C s wa → w0.heap.size ≤ wa.heap.size → ButLevels w0.heap.size wa wb → C s wb)
    (hr : r < w0.heap.size) (hrM : ¬ M r) (hcells : ∀ j, j < 6 → w0.cell? ⟨r, j, none⟩ = e.cells[j]?) (hlies : e.lies w1) (hgood : e.good) (hbk : e.bulk ≤ 1048576) (hc : 1 ≤ c) (hcm : c ≤ maxLen)
    (hread : Reads step C (List.foldl step s0 (e.pre 1)) M w0 fn caps) :
    Calls Tryd.prog 56 #[.slice (some ⟨r, 0, none⟩) 1 c, .func (.func fn) #[] caps] w0 fun x w' => x = .returned (.tuple #[]) ∧ ButSome M w0.heap.size w0 w' ∧ C (List.foldl step s0 (e.pre 1)) w' := by
  have key := walk_calls fn caps (fun fs w => ButSome M w0.heap.size w0 w ∧ (∃ s, C s w ∧ List.foldl step s (frPre fs) = List.foldl step s0 (e.pre 1)) ∧ ∀ f ∈ fs, f.still M w0.heap.size w1 w0) w0 hent
    (fun fs wa wb hJ hsz hbl => by
      obtain ⟨h1, ⟨s, h2, h3⟩, h4⟩ := hJ
      exact ⟨h1.trans (.of_levels hbl hsz), ⟨s, hstab s wa wb h2 hsz hbl, h3⟩, h4⟩)
    (by
      intro fs b o c e' l d w hJ hfit hB
      obtain ⟨h1, ⟨s, h2, h3⟩, h4⟩ := hJ
      obtain ⟨f1, f2, f3, f4⟩ := h4 ⟨b, o, c, e' :: l, d⟩ (by simp)
      have hx := f4 e' (by simp)
      have hcl : ∀ j, j < 6 → w.cell? ⟨b, o + j, none⟩ = e'.cells[j]? := fun j hj => by
        rw [h1.cell f1 f2]
        have := f3 0 (by simp) j hj
        simpa using this
      have hbw : Below w1.heap.size w1 w := hb1.trans (h1.below hb1.size hM)
      have hd : d + e'.size ≤ 1048577 := by
        have := (hfit ⟨b, o, c, e' :: l, d⟩ (by simp)).2.2.2
        simp only [sizes] at this
        omega
      have hfin : ∀ b' o' c', List.foldl step (step s (e', d)) (frPre (nextFrs fs b o c l d b' o' c' e'.args)) = List.foldl step s0 (e.pre 1) := fun b' o' c' => by
        rw [← h3, frPre_next fs b o c e' l d b' o' c']
        rfl
      refine (hread s e' d b o w h2 h1 f1 f2 hcl (lies_below hbw _ hx.1) hx.2.1 hx.2.2 hd ⟨_, hfin 0 0 0⟩).mono ?_
      rintro x w' ⟨rfl, hk, hbs, hC⟩
      obtain ⟨kd, pl, nm, it, dn, a, cap, ar⟩ := e'
      obtain ⟨b', o', g1, g2⟩ := hx.1
      obtain ⟨⟨-, -, -, -, -, q1, q2⟩, q3⟩ := hx.2.1
      have q4 := hx.2.2
      simp only [Ex.bulk] at q4
      refine ⟨rfl, hk, hbs.size, a, b', o', cap, ?_, g1, q1, q2, h1.trans hbs, ⟨_, hC, hfin b' o' cap⟩, ?_⟩
      · rw [hbs.cell f1 f2]
        exact hcl 5 (by omega)
      · intro f hf
        rw [nextFrs] at hf
        rcases List.mem_append.1 hf with hf | hf
        · rcases List.mem_append.1 hf with hf | hf
          · exact h4 f (by simp [hf])
          · split at hf
            · cases hf
            · rw [List.mem_singleton] at hf
              subst hf
              refine ⟨f1, f2, fun i hi j hj => ?_, fun x hx => f4 x (List.mem_cons_of_mem _ hx)⟩
              have := f3 (i + 1) (by simpa using hi) j hj
              show w0.cell? ⟨b, o + 6 + i * 6 + j, none⟩ = _
              rw [show o + 6 + i * 6 + j = o + (i + 1) * 6 + j by omega]
              exact this
        · split at hf
          · cases hf
          · rename_i hne
            rw [List.mem_singleton] at hf
            subst hf
            have hlt : b' < w1.heap.size := by
              have h0 := (lieAt_get ar o' 0 g2 (List.length_pos_iff.2 hne)).1 0 (by omega)
              cases hz : ar[0]'(List.length_pos_iff.2 hne)
              rw [hz] at h0
              exact World.block_lt_of_cell? w1 ⟨b', _, none⟩ h0
            refine ⟨Nat.lt_of_lt_of_le hlt hb1.size, fun hm => by have := hM _ hm; exact absurd hlt (Nat.not_lt.2 this), fun i hi j hj => ?_, fun x hx => ?_⟩
            · have := (lieAt_get ar o' i g2 hi).1 j hj
              rw [← this]
              exact hb1.cell (p := ⟨b', _, none⟩) hlt
            · obtain ⟨i, hi, rfl⟩ := List.getElem_of_mem hx
              exact ⟨(lieAt_get ar o' i g2 hi).2, goods_get q3 hi, Nat.le_trans (bulk_arg (l := ar) hi) (by omega)⟩)
    r 0 c [e] (by simp) (by simpa using hc) hcm (by have := size_bulk e; simp only [sizes]; omega)
    ⟨.refl _ _ _, ⟨s0, hC0, by simp [frPre, pres]⟩, fun f hf => by
      rw [List.mem_singleton] at hf
      subst hf
      refine ⟨hr, hrM, fun i hi j hj => ?_, fun x hx => ?_⟩
      · obtain rfl : i = 0 := by simpa using hi
        simpa using hcells j hj
      · rw [List.mem_singleton] at hx
        subst hx
        exact ⟨hlies, hgood, hbk⟩⟩
  refine key.mono ?_
  rintro x w' ⟨rfl, h1, ⟨s, h2, h3⟩, -⟩
  refine ⟨rfl, h1, ?_⟩
  rw [← h3]
  exact h2
end Go.Proofs.YtbahpbinilnfoaaDoor
