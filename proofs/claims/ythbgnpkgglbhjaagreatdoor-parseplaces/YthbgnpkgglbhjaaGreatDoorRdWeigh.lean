/- What the grammar reads weighs no more than the tokens that it read. No program in sight. -/
import Derived.Test.YthbgnpkgglbhjaaGreatDoorLexEnds
import Derived.Test.YthbgnpkgglbhjaaGreatDoorRdSp
import Derived.Test.YthbgnpkgglbhjaaGreatDoorTreeMay
namespace Go.Proofs.YthbgnpkgglbhjaaGreatDoor
open Go.RowKit
open Ex.size Ex.depth Ex.lies Ex.bulk Ex.good Ex.bare
theorem wt_tail (ts : List Tok) : wt ts.tail ≤ wt ts := by
  cases ts with
  | nil => exact Nat.le_refl _
  | cons t r => simp only [List.tail_cons, wt]; omega
theorem wt_took {ts : List Tok} (h : (hd ts).text ≠ ⟨#[]⟩ ∨ (hd ts).kind ≠ 0) : wt ts.tail + 1 + (hd ts).text.size ≤ wt ts := by
  cases ts with
  | nil => rcases h with h | h <;> exact absurd rfl h
  | cons t r => simp only [List.tail_cons, wt, hd, List.headD_cons]; omega
/-- What is read has that measure, at most what its tokens weigh, besides what was there. -/
def Wt {α : Type} (f : α → Nat) (m : Nat) (p : PR α) (ts : List Tok) : Prop := ∀ a t2, p = .ok (a, t2) → f a + wt t2 ≤ m + wt ts
theorem Wt.ok {α : Type} {f : α → Nat} {m : Nat} {a : α} {t ts : List Tok} (h : f a + wt t ≤ m + wt ts) : Wt f m (.ok (a, t) : PR α) ts := fun _ _ e => by
  simp only [Except.ok.injEq, Prod.mk.injEq] at e
  rw [← e.1, ← e.2]; exact h
theorem Wt.error {α : Type} {f : α → Nat} {m : Nat} {k : Nat × Int} {ts : List Tok} : Wt f m (.error k : PR α) ts := fun _ _ e => by cases e
theorem Wt.then {α β : Type} {f : α → Nat} {g : β → Nat} {m n : Nat} {p : PR α} {q : α → List Tok → PR β} {ts : List Tok} (h : Wt f m p ts) (hq : ∀ a t2, f a + wt t2 ≤ m + wt ts → Wt g (n + wt ts - wt t2) (q a t2) t2) (hn : ∀ a t2, f a + wt t2 ≤ m + wt ts → wt t2 ≤ n + wt ts) : Wt g n (p.then q) ts := fun b t3 e => by
  cases p with
  | error k => cases e
  | ok r =>
    have h1 := h r.1 r.2 rfl
    have h2 := hq r.1 r.2 h1 b t3 e
    have h3 := hn r.1 r.2 h1
    omega
/-- What is left weighs no more. -/
abbrev Wl {α : Type} (p : PR α) (ts : List Tok) : Prop := Wt (fun _ => 0) 0 p ts
theorem want_wl (s : ByteArray) (ts : List Tok) : Wl (wantT s ts) ts := by
  unfold wantT
  split
  · exact Wt.ok (by have := wt_tail ts; omega)
  · exact Wt.error
theorem num_wl (l : Int) (ts : List Tok) : Wl (numT l ts) ts := by
  unfold numT
  split
  · exact Wt.ok (by have := wt_tail ts; omega)
  · exact Wt.error
theorem name_wl (ts : List Tok) : Wl (nameT ts) ts := by
  unfold nameT
  split
  · exact Wt.ok (by have := wt_tail ts; omega)
  · exact Wt.error
theorem Wl.then {α β : Type} {g : β → Nat} {n : Nat} {p : PR α} {q : α → List Tok → PR β} {ts : List Tok} (h : Wl p ts) (hq : ∀ a t2, wt t2 ≤ wt ts → Wt g (n + wt ts - wt t2) (q a t2) t2) : Wt g n (p.then q) ts :=
  Wt.then h (fun a t2 e => hq a t2 (by omega)) fun a t2 e => by omega
theorem Wt.lift {α : Type} {f : α → Nat} {m n : Nat} {p : PR α} {t ts : List Tok} (h : Wt f m p t) (hl : m + wt t ≤ n + wt ts) : Wt f n p ts := fun a t2 e => by have := h a t2 e; omega
theorem late_wl (ts : List Tok) : Wl (lateT ts) ts := by
  unfold lateT
  refine (num_wl 0 ts).then fun a t1 h1 => ?_
  split
  · refine Wt.lift (m := 0) (t := t1.tail) ((num_wl 1 t1.tail).then fun b t2 h2 => Wt.ok (by omega)) ?_
    have := wt_tail t1
    omega
  · exact Wt.ok (by omega)
theorem open_wt {α : Type} {f : α → Nat} {n op : Nat} {ts ts' : List Tok} {q : List Tok → PR α} (h : Wt f n (q ts.tail) ts') : Wt f n (openT op ts q) ts' := by
  unfold openT
  split
  · exact Wt.error
  · exact h
theorem sgn_took {rule k : Int} {ts : List Tok} (h : sgn rule ts = some k) : wt ts.tail + 1 ≤ wt ts := by
  have := wt_took (ts := ts) (Or.inl (sgn_ne h)); omega
theorem mk2_bulk (k : Int) (a b : Ex) : (mk2 k a b).bulk = 1 + a.bulk + b.bulk := by
  simp only [mk2, Ex.bulk, bulks]
  have : (⟨#[]⟩ : ByteArray).size = 0 := rfl
  omega
theorem mk1_bulk (k pl : Int) (e : Ex) (it dn : Int) : (mk1 k pl e it dn).bulk = 1 + e.bulk := by
  simp only [mk1, Ex.bulk, bulks]
  have : (⟨#[]⟩ : ByteArray).size = 0 := rfl
  omega
theorem chain_wt (part : List Tok → PR Ex) (hp : ∀ ts, Wt Ex.bulk 0 (part ts) ts) (rule : Int) : ∀ n e ts, Wt Ex.bulk e.bulk (chainL part rule n e ts) ts
  | 0, _, _ => Wt.error
  | n + 1, e, ts => by
    unfold chainL
    split
    · exact Wt.ok (Nat.le_refl _)
    · rename_i k hs
      have h1 := sgn_took hs
      refine Wt.lift (t := ts.tail) (m := e.bulk + 1) (Wt.then (hp ts.tail) (fun e2 t2 h2 => ?_) fun e2 t2 h2 => by omega) (by omega)
      refine Wt.lift (chain_wt part hp rule n (mk2 k e e2) t2) ?_
      rw [mk2_bulk]
      omega
theorem post_wt : ∀ n e ts, Wt Ex.bulk e.bulk (postL n e ts) ts
  | 0, _, _ => Wt.error
  | n + 1, e, ts => by
    unfold postL
    split
    · exact Wt.ok (Nat.le_refl _)
    · rename_i k hs
      have h1 := sgn_took hs
      split
      · refine Wt.lift (t := ts.tail) (m := e.bulk + 1) ((late_wl ts.tail).then fun x t2 h2 => ?_) (by omega)
        refine Wt.lift (post_wt n _ t2) ?_
        rw [mk1_bulk]
        omega
      · refine Wt.lift (t := ts.tail) (m := e.bulk + 1) ((num_wl 1 ts.tail).then fun x t2 h2 => ?_) (by omega)
        refine Wt.lift (post_wt n _ t2) ?_
        rw [mk1_bulk]
        omega
theorem listL_wt {α : Type} (f : List α → Nat) (g : α → Nat) (ha : ∀ l x, f (l ++ [x]) = f l + g x) (part : List Tok → PR α) (hp : ∀ ts, Wt g 0 (part ts) ts) (s : ByteArray) : ∀ n l ts, Wt f (f l) (listL part s n l ts) ts
  | 0, _, _ => Wt.error
  | n + 1, l, ts => by
    unfold listL
    split
    · have := wt_tail ts
      refine Wt.lift (t := ts.tail) (m := f l) (Wt.then (hp ts.tail) (fun x t2 h2 => ?_) fun x t2 h2 => by omega) (by omega)
      refine Wt.lift (listL_wt f g ha part hp s n _ t2) ?_
      rw [ha]
      omega
    · exact Wt.ok (Nat.le_refl _)
theorem listT_wt {α : Type} (f : List α → Nat) (g : α → Nat) (ha : ∀ l x, f (l ++ [x]) = f l + g x) (h0 : f [] = 0) (part : List Tok → PR α) (hp : ∀ ts, Wt g 0 (part ts) ts) (s : ByteArray) (n : Nat) (ts : List Tok) : Wt f 0 (listT part s n ts) ts := by
  unfold listT
  refine Wt.then (hp ts) (fun x t2 h2 => ?_) fun x t2 h2 => by omega
  refine Wt.lift (listL_wt f g ha part hp s n [x] t2) ?_
  have := ha [] x
  rw [List.nil_append] at this
  rw [this]
  omega
theorem bulks_app (a b : List Ex) : bulks (a ++ b) = bulks a + bulks b := by
  induction a with
  | nil => simp [bulks]
  | cons e r ih => simp only [List.cons_append, bulks, ih]; omega
theorem bulks_more (l : List Ex) (x : Ex) : bulks (l ++ [x]) = bulks l + x.bulk := by
  rw [bulks_app]; simp [bulks]
theorem empty_size : (⟨#[]⟩ : ByteArray).size = 0 := rfl
theorem text_took {ts : List Tok} {t : ByteArray} (h : (hd ts).text = t) (hn : t ≠ ⟨#[]⟩) : wt ts.tail + 1 ≤ wt ts := by
  have := wt_took (ts := ts) (Or.inl (by rw [h]; exact hn)); omega
theorem kind_took {ts : List Tok} {k : Int} (h : (hd ts).kind = k) (hn : k ≠ 0) : wt ts.tail + 1 + (hd ts).text.size ≤ wt ts := wt_took (Or.inr (by rw [h]; exact hn))
theorem pp_wt : ∀ n r op ts, Wt Ex.bulk 0 (pp n r op ts) ts
  | 0, _, _, _ => Wt.error
  | n + 1, r, op, ts => by
    have ih := pp_wt n
    unfold pp
    by_cases h : r = 0
    · rw [if_pos h]
      split
      · rename_i h
        have h1 := text_took h (by decide)
        refine open_wt ?_
        refine Wt.lift (t := ts.tail) (m := 1) (Wt.then (ih 0 (op + 1) ts.tail) (fun a t2 ha => ?_) fun a t2 ha => by omega) (by omega)
        refine (want_wl _ t2).then fun _ t3 h3 => ?_
        refine Wt.then (ih 0 (op + 1) t3) (fun b t4 hb => ?_) fun b t4 hb => by omega
        refine (want_wl _ t4).then fun _ t5 h5 => ?_
        refine Wt.then (ih 0 (op + 1) t5) (fun c t6 hc => ?_) fun c t6 hc => by omega
        refine Wt.ok ?_
        simp only [Ex.bulk, bulks, empty_size]
        omega
      · exact ih 1 op ts
    rw [if_neg h]
    clear h
    by_cases h : r = 1
    · rw [if_pos h]
      refine Wt.then (ih 2 op ts) (fun a t1 ha => ?_) fun a t1 ha => by omega
      split
      · exact Wt.ok (by omega)
      · rename_i k hs
        have h1 := sgn_took hs
        refine open_wt ?_
        refine Wt.lift (t := t1.tail) (m := a.bulk + 1) (Wt.then (ih 1 (op + 1) t1.tail) (fun b t2 hb => ?_) fun b t2 hb => by omega) (by omega)
        refine Wt.ok ?_
        rw [mk2_bulk]
        omega
    rw [if_neg h]
    clear h
    by_cases h : r = 2
    · rw [if_pos h]
      refine Wt.then (ih 3 op ts) (fun a t1 ha => ?_) fun a t1 ha => by omega
      exact Wt.lift (chain_wt _ (ih 3 op) 1 n a t1) (by omega)
    rw [if_neg h]
    clear h
    by_cases h : r = 3
    · rw [if_pos h]
      refine Wt.then (ih 4 op ts) (fun a t1 ha => ?_) fun a t1 ha => by omega
      exact Wt.lift (chain_wt _ (ih 4 op) 2 n a t1) (by omega)
    rw [if_neg h]
    clear h
    by_cases h : r = 4
    · rw [if_pos h]
      split
      · rename_i h
        have h1 := text_took h (by decide)
        refine open_wt ?_
        refine Wt.lift (t := ts.tail) (m := 1) (Wt.then (ih 4 (op + 1) ts.tail) (fun a t2 ha => ?_) fun a t2 ha => by omega) (by omega)
        refine Wt.ok ?_
        rw [mk1_bulk]
        omega
      · exact ih 5 op ts
    rw [if_neg h]
    clear h
    by_cases h : r = 5
    · rw [if_pos h]
      refine Wt.then (ih 6 op ts) (fun a t1 ha => ?_) fun a t1 ha => by omega
      split
      · exact Wt.ok (by omega)
      · rename_i k hs
        have h1 := sgn_took hs
        refine Wt.lift (t := t1.tail) (m := a.bulk + 1) (Wt.then (ih 6 op t1.tail) (fun b t2 hb => ?_) fun b t2 hb => by omega) (by omega)
        refine Wt.ok ?_
        rw [mk2_bulk]
        omega
    rw [if_neg h]
    clear h
    by_cases h : r = 6
    · rw [if_pos h]
      refine Wt.then (ih 7 op ts) (fun a t1 ha => ?_) fun a t1 ha => by omega
      exact Wt.lift (chain_wt _ (ih 7 op) 4 n a t1) (by omega)
    rw [if_neg h]
    clear h
    by_cases h : r = 7
    · rw [if_pos h]
      refine Wt.then (ih 8 op ts) (fun a t1 ha => ?_) fun a t1 ha => by omega
      exact Wt.lift (chain_wt _ (ih 8 op) 5 n a t1) (by omega)
    rw [if_neg h]
    clear h
    by_cases h : r = 8
    · rw [if_pos h]
      split
      · rename_i h
        have h1 := text_took h (by decide)
        refine open_wt ?_
        refine Wt.lift (t := ts.tail) (m := 1) (Wt.then (ih 8 (op + 1) ts.tail) (fun a t2 ha => ?_) fun a t2 ha => by omega) (by omega)
        refine Wt.ok ?_
        rw [mk1_bulk]
        omega
      · split
        · rename_i h
          have h1 := text_took h (by decide)
          refine open_wt ?_
          refine Wt.lift (t := ts.tail) (m := 1) (Wt.then (ih 8 (op + 1) ts.tail) (fun a t2 ha => ?_) fun a t2 ha => by omega) (by omega)
          refine Wt.ok ?_
          rw [mk1_bulk]
          omega
        · exact ih 9 op ts
    rw [if_neg h]
    clear h
    by_cases h : r = 9
    · rw [if_pos h]
      refine Wt.then (ih 10 op ts) (fun a t1 ha => ?_) fun a t1 ha => by omega
      exact Wt.lift (post_wt n a t1) (by omega)
    rw [if_neg h]
    clear h
    by_cases h : (hd ts).kind = 2
    · rw [if_pos h]
      have h1 := kind_took h (by decide)
      refine Wt.ok ?_
      simp only [leafE, Ex.bulk, bulks, empty_size]
      omega
    rw [if_neg h]
    clear h
    by_cases h : (hd ts).kind = 1
    · rw [if_pos h]
      have h1 := kind_took h (by decide)
      split
      · refine open_wt ?_
        have h2 := wt_tail ts.tail
        refine Wt.lift (t := ts.tail.tail) (m := 1 + (hd ts).text.size) (Wt.then (listT_wt bulks Ex.bulk bulks_more rfl _ (ih 0 (op + 1)) _ n ts.tail.tail) (fun l t2 hl => ?_) fun l t2 hl => by omega) (by omega)
        refine (want_wl _ t2).then fun _ t3 h3 => Wt.ok ?_
        simp only [Ex.bulk]
        omega
      · refine Wt.ok ?_
        simp only [Ex.bulk, bulks]
        omega
    rw [if_neg h]
    clear h
    by_cases h : (hd ts).text = ⟨#[116, 114, 117, 101]⟩
    · rw [if_pos h]
      have h1 := text_took h (by decide)
      refine Wt.ok ?_
      simp only [leafE, Ex.bulk, bulks, empty_size]
      omega
    rw [if_neg h]
    clear h
    by_cases h : (hd ts).text = ⟨#[102, 97, 108, 115, 101]⟩
    · rw [if_pos h]
      have h1 := text_took h (by decide)
      refine Wt.ok ?_
      simp only [leafE, Ex.bulk, bulks, empty_size]
      omega
    rw [if_neg h]
    clear h
    by_cases h : (hd ts).text = ⟨#[40]⟩
    · rw [if_pos h]
      have h1 := text_took h (by decide)
      refine open_wt ?_
      refine Wt.lift (t := ts.tail) (m := 1) (Wt.then (ih 0 (op + 1) ts.tail) (fun a t2 ha => ?_) fun a t2 ha => by omega) (by omega)
      exact (want_wl _ t2).then fun _ t3 h3 => Wt.ok (by omega)
    rw [if_neg h]
    exact Wt.error
theorem param_wl (ts : List Tok) : Wl (paramT ts) ts := by
  unfold paramT
  refine (name_wl ts).then fun s t1 h1 => (want_wl _ t1).then fun _ t2 h2 => ?_
  split
  · exact Wt.ok (by have := wt_tail t2; omega)
  · exact (want_wl _ t2).then fun _ t3 h3 => Wt.ok (by omega)
theorem in_wl (ts : List Tok) : Wl (inT ts) ts := by
  unfold inT
  refine (param_wl ts).then fun p t1 h1 => ?_
  split
  · have := wt_tail t1
    refine Wt.lift (t := t1.tail) (m := 0) ((want_wl _ t1.tail).then fun _ t2 h2 => (num_wl 1 t2).then fun a t3 h3 => (want_wl _ t3).then fun _ t4 h4 => (num_wl 0 t4).then fun b t5 h5 => (want_wl _ t5).then fun _ t6 h6 => Wt.ok (by omega)) (by omega)
  · exact Wt.ok (by omega)
theorem out_wl (ts : List Tok) : Wl (outT ts) ts := by
  unfold outT
  refine (param_wl ts).then fun p t1 h1 => ?_
  split
  · have := wt_tail t1
    exact Wt.lift (t := t1.tail) (m := 0) ((num_wl 1 t1.tail).then fun a t2 h2 => Wt.ok (by omega)) (by omega)
  · exact Wt.ok (by omega)
theorem params_wl (one : List Tok → PR Pm) (h1 : ∀ ts, Wl (one ts) ts) (n : Nat) (ts : List Tok) : Wl (paramsT one n ts) ts := by
  unfold paramsT
  refine (want_wl _ ts).then fun _ t1 g1 => ?_
  split
  · exact Wt.ok (by have := wt_tail t1; omega)
  · exact Wt.lift (m := 0) (t := t1) ((listT_wt (fun _ => 0) (fun _ => 0) (fun _ _ => rfl) rfl one h1 _ n t1).then (fun l t2 g2 => (want_wl _ t2).then fun _ t3 g3 => Wt.ok (by omega)) fun l t2 g2 => by omega) (by omega)
theorem vars_wl : ∀ n l ts, Wl (varsL n l ts) ts
  | 0, _, _ => Wt.error
  | n + 1, l, ts => by
    unfold varsL
    split
    · exact Wt.ok (Nat.le_refl _)
    · exact (param_wl ts).then fun p t1 h1 => (want_wl _ t1).then fun _ t2 h2 => Wt.lift (vars_wl n _ t2) (by omega)
theorem varsT_wl (n : Nat) (ts : List Tok) : Wl (varsT n ts) ts := by
  unfold varsT
  split
  · exact Wt.lift (vars_wl n [] ts.tail) (by have := wt_tail ts; omega)
  · exact Wt.ok (Nat.le_refl _)
theorem eqR_wt (n op : Nat) (pl : Int) (ns : List ByteArray) (ts : List Tok) : Wt (fun q : Eqn => q.e.bulk) 0 (eqR n op pl ns ts) ts := by
  unfold eqR
  refine (want_wl _ ts).then fun _ t1 h1 => ?_
  refine Wt.then (pp_wt n 0 op t1) (fun e t2 h2 => ?_) fun e t2 h2 => by omega
  exact (want_wl _ t2).then fun _ t3 h3 => Wt.ok (by show e.bulk + _ ≤ _; omega)
theorem eqT_wt (n op : Nat) (ts : List Tok) : Wt (fun q : Eqn => q.e.bulk) 0 (eqT n op ts) ts := by
  unfold eqT
  split
  · have h0 := wt_tail ts
    refine Wt.lift (m := 0) (t := ts.tail) ((listT_wt (fun _ => 0) (fun _ => 0) (fun _ _ => rfl) rfl nameT name_wl _ n ts.tail).then (fun l t1 h1 => ?_) fun l t1 h1 => by omega) (by omega)
    exact (want_wl _ t1).then fun _ t2 h2 => Wt.lift (eqR_wt n op _ _ t2) (by omega)
  · exact (name_wl ts).then fun s t1 h1 => Wt.lift (eqR_wt n op _ _ t1) (by omega)
def eqBulks : List Eqn → Nat
  | [] => 0
  | q :: r => q.e.bulk + eqBulks r
theorem eqBulks_app (a b : List Eqn) : eqBulks (a ++ b) = eqBulks a + eqBulks b := by
  induction a with
  | nil => simp [eqBulks]
  | cons q r ih => simp only [List.cons_append, eqBulks, ih]; omega
def ndBulks : List Nd → Nat
  | [] => 0
  | n :: r => eqBulks n.eqs + ndBulks r
theorem ndBulks_app (a b : List Nd) : ndBulks (a ++ b) = ndBulks a + ndBulks b := by
  induction a with
  | nil => simp [ndBulks]
  | cons q r ih => simp only [List.cons_append, ndBulks, ih]; omega
theorem eqs_wt (n op : Nat) : ∀ k l ts, Wt eqBulks (eqBulks l) (eqsL n op k l ts) ts
  | 0, _, _ => Wt.error
  | k + 1, l, ts => by
    unfold eqsL
    split
    · exact Wt.ok (by have := wt_tail ts; omega)
    · refine Wt.then (eqT_wt n op ts) (fun q t1 h1 => ?_) fun q t1 h1 => by omega
      refine Wt.lift (eqs_wt n op k _ t1) ?_
      rw [eqBulks_app]
      simp only [eqBulks]
      omega
theorem inOf_wl (fl : Bool) (ts : List Tok) : Wl (inOf fl ts) ts := by
  unfold inOf
  split
  · exact in_wl ts
  · exact param_wl ts
theorem outOf_wl (fl : Bool) (ts : List Tok) : Wl (outOf' fl ts) ts := by
  unfold outOf'
  split
  · exact out_wl ts
  · exact param_wl ts
theorem node_wt (n op : Nat) (ts : List Tok) : Wt (fun d : Nd => eqBulks d.eqs) 0 (nodeT n op ts) ts := by
  unfold nodeT
  have h0 := wt_tail ts
  refine Wt.lift (m := 0) (t := ts.tail) ((name_wl ts.tail).then fun s t1 h1 => ?_) (by omega)
  refine (params_wl _ (inOf_wl _) n t1).then fun i t2 h2 => (want_wl _ t2).then fun _ t3 h3 => ?_
  refine (params_wl _ (outOf_wl _) n t3).then fun o t4 h4 => (varsT_wl n t4).then fun v t5 h5 => (want_wl _ t5).then fun _ t6 h6 => ?_
  refine Wt.then (eqs_wt n op n [] t6) (fun q t7 h7 => Wt.ok ?_) fun q t7 h7 => by simp only [eqBulks] at h7; omega
  show eqBulks q + _ ≤ _
  simp only [eqBulks] at h7
  omega
theorem nodes_wt (n op : Nat) : ∀ k l ts, Wt ndBulks (ndBulks l) (nodesL n op k l ts) ts
  | 0, _, _ => Wt.error
  | k + 1, l, ts => by
    unfold nodesL
    split
    · refine Wt.then (node_wt n op ts) (fun q t1 h1 => ?_) fun q t1 h1 => by omega
      refine Wt.lift (nodes_wt n op k _ t1) ?_
      rw [ndBulks_app]
      simp only [ndBulks]
      omega
    · exact Wt.ok (Nat.le_refl _)
end Go.Proofs.YthbgnpkgglbhjaaGreatDoor
