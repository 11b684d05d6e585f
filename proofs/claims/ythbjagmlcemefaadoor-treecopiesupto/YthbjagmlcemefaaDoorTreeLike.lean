/- The program's alike with functions that change nothing (written by gen_like.py). -/
import Derived.Test.YthbjagmlcemefaaDoorTreeAlike
namespace Go.Proofs.YthbjagmlcemefaaDoor
open Go.RowKit
open Ex.size Ex.depth Ex.lies Ex.bulk Ex.good
def likeB {α : Type} (f : α → α → Bool) : List α → List α → Bool
  | x :: r, y :: s => f x y && likeB f r s
  | [], [] => true
  | [], _ :: _ => false
  | _ :: _, [] => false
theorem likeB_at {α : Type} (f : α → α → Bool) (la lb : List α) (k : Nat) (h : k < la.length) (h' : k < lb.length) : likeB f (la.take (k + 1)) (lb.take (k + 1)) = (likeB f (la.take k) (lb.take k) && f la[k] lb[k]) := by
  induction la generalizing lb k with
  | nil => simp at h
  | cons x r ih =>
    cases lb with
    | nil => simp at h'
    | cons y s =>
      cases k with
      | zero => simp [likeB]
      | succ k => simp only [List.take_succ_cons, likeB, List.getElem_cons_succ, ih s k (by simpa using h) (by simpa using h'), Bool.and_assoc]
theorem likeB_false {α : Type} (f : α → α → Bool) (la lb : List α) (k : Nat) (h : k < la.length) (h' : k < lb.length) (g : f la[k] lb[k] = false) : likeB f la lb = false := by
  induction la generalizing lb k with
  | nil => simp at h
  | cons x r ih =>
    cases lb with
    | nil => simp at h'
    | cons y s =>
      cases k with
      | zero => simp only [List.getElem_cons_zero] at g; simp [likeB, g]
      | succ k => simp [likeB, ih s k (by simpa using h) (by simpa using h') (by simpa using g)]
theorem likeB_len {α : Type} (f : α → α → Bool) (la lb : List α) (h : la.length ≠ lb.length) : likeB f la lb = false := by
  induction la generalizing lb with
  | nil =>
    cases lb with
    | nil => simp at h
    | cons y s => simp [likeB]
  | cons x r ih =>
    cases lb with
    | nil => simp [likeB]
    | cons y s => simp [likeB, ih s (by simpa using h)]
theorem likeB_all {α : Type} {f : α → α → Bool} {la lb : List α} (hl : la.length = lb.length) (h : likeB f (la.take la.length) (lb.take la.length) = true) : likeB f la lb = true := by
  rw [List.take_length, hl, List.take_length] at h
  exact h
theorem likeB_refl {α : Type} {f : α → α → Bool} (l : List α) (h : ∀ x ∈ l, f x x = true) : likeB f l l = true := by
  induction l with
  | nil => rfl
  | cons x r ih => rw [likeB, h x (by simp), ih fun y hy => h y (by simp [hy])]; rfl
theorem lieParam_of {w : World} {a : Option Addr} {l : List Pm} (h : rowIn Pm.cells 7 w a l) {I : Nat → World → Prop} (hI : ∀ k w', I k w' → Below w.heap.size w w') : lieParam a l I := fun hne => by
  obtain ⟨b, o, rfl, hlt, hr⟩ := h hne
  exact ⟨b, o, rfl, fun k w' hk i hi j hj => ((hI k w' hk).cell (p := ⟨b, _, none⟩) hlt).trans (hr i hi j hj)⟩
theorem alikeParam_pure (fn : Nat) (hent : ∀ args w, (callFunc fn args).run Tryd.prog w = .ok (.enter fn args) w) (f : Pm → Pm → Bool) (la lb : List Pm) (aa ab : Option Addr) (ca cb : Nat) (w : World) (hla : rowIn Pm.cells 7 w aa la) (hlb : rowIn Pm.cells 7 w ab lb) (hn : la.length ≤ 1048576) (hn' : lb.length ≤ 1048576)
    (hf : ∀ x ∈ la, ∀ y ∈ lb, ∀ w', Below w.heap.size w w' → Calls Tryd.prog fn #[x.val, y.val] w' fun r w'' => r = .returned (.bool (f x y)) ∧ Below w'.heap.size w' w'') :
    Calls Tryd.prog 66 #[.slice aa la.length ca, .slice ab lb.length cb, .func (.func fn) #[] #[]] w fun r w' => r = .returned (.bool (likeB f la lb)) ∧ Below w.heap.size w w' := by
  refine (alikeParam_calls fn #[] hent la lb aa ab ca cb w (fun k w' => Below w.heap.size w w' ∧ likeB f (la.take k) (lb.take k) = true) (fun w' => Below w.heap.size w w' ∧ likeB f la lb = false) (lieParam_of hla fun k w' h => h.1) (lieParam_of hlb fun k w' h => h.1)
    (fun k w' q h => ⟨⟨h.1.os, h.1.tape, h.1.output, h.1.size, h.1.block⟩, h.2⟩)
    (fun k hk hk' w' h => by
      refine (hf la[k] (List.getElem_mem hk) lb[k] (List.getElem_mem hk') w' h.1).mono ?_
      rintro r w2 ⟨rfl, hb2⟩
      have hB : Below w.heap.size w w2 := h.1.trans (hb2.mono h.1.size)
      refine ⟨_, rfl, fun hq => ⟨hB, ?_⟩, fun hq => ⟨hB, likeB_false f la lb k hk hk' hq⟩⟩
      rw [likeB_at f la lb k hk hk', h.2, hq]
      rfl)
    ⟨Below.refl _ _, by simp [likeB]⟩ hn hn').mono ?_
  rintro r w' ⟨q, rfl, h1, h2⟩
  cases q
  · rcases h2 rfl with h | h
    · exact ⟨by rw [likeB_len f la lb h.1], h.2.1⟩
    · exact ⟨by rw [h.2], h.1⟩
  · obtain ⟨e1, e2, e3⟩ := h1 rfl
    exact ⟨by rw [likeB_all e1 e3], e2⟩
theorem lieEq_of {w : World} {a : Option Addr} {l : List Eqn} (h : rowIn Eqn.cells 8 w a l) {I : Nat → World → Prop} (hI : ∀ k w', I k w' → Below w.heap.size w w') : lieEq a l I := fun hne => by
  obtain ⟨b, o, rfl, hlt, hr⟩ := h hne
  exact ⟨b, o, rfl, fun k w' hk i hi j hj => ((hI k w' hk).cell (p := ⟨b, _, none⟩) hlt).trans (hr i hi j hj)⟩
theorem alikeEq_pure (fn : Nat) (hent : ∀ args w, (callFunc fn args).run Tryd.prog w = .ok (.enter fn args) w) (f : Eqn → Eqn → Bool) (la lb : List Eqn) (aa ab : Option Addr) (ca cb : Nat) (w : World) (hla : rowIn Eqn.cells 8 w aa la) (hlb : rowIn Eqn.cells 8 w ab lb) (hn : la.length ≤ 1048576) (hn' : lb.length ≤ 1048576)
    (hf : ∀ x ∈ la, ∀ y ∈ lb, ∀ w', Below w.heap.size w w' → Calls Tryd.prog fn #[x.val, y.val] w' fun r w'' => r = .returned (.bool (f x y)) ∧ Below w'.heap.size w' w'') :
    Calls Tryd.prog 68 #[.slice aa la.length ca, .slice ab lb.length cb, .func (.func fn) #[] #[]] w fun r w' => r = .returned (.bool (likeB f la lb)) ∧ Below w.heap.size w w' := by
  refine (alikeEq_calls fn #[] hent la lb aa ab ca cb w (fun k w' => Below w.heap.size w w' ∧ likeB f (la.take k) (lb.take k) = true) (fun w' => Below w.heap.size w w' ∧ likeB f la lb = false) (lieEq_of hla fun k w' h => h.1) (lieEq_of hlb fun k w' h => h.1)
    (fun k w' q h => ⟨⟨h.1.os, h.1.tape, h.1.output, h.1.size, h.1.block⟩, h.2⟩)
    (fun k hk hk' w' h => by
      refine (hf la[k] (List.getElem_mem hk) lb[k] (List.getElem_mem hk') w' h.1).mono ?_
      rintro r w2 ⟨rfl, hb2⟩
      have hB : Below w.heap.size w w2 := h.1.trans (hb2.mono h.1.size)
      refine ⟨_, rfl, fun hq => ⟨hB, ?_⟩, fun hq => ⟨hB, likeB_false f la lb k hk hk' hq⟩⟩
      rw [likeB_at f la lb k hk hk', h.2, hq]
      rfl)
    ⟨Below.refl _ _, by simp [likeB]⟩ hn hn').mono ?_
  rintro r w' ⟨q, rfl, h1, h2⟩
  cases q
  · rcases h2 rfl with h | h
    · exact ⟨by rw [likeB_len f la lb h.1], h.2.1⟩
    · exact ⟨by rw [h.2], h.1⟩
  · obtain ⟨e1, e2, e3⟩ := h1 rfl
    exact ⟨by rw [likeB_all e1 e3], e2⟩
theorem lieNode_of {w : World} {a : Option Addr} {l : List Nd} (h : rowIn Nd.cells 7 w a l) {I : Nat → World → Prop} (hI : ∀ k w', I k w' → Below w.heap.size w w') : lieNode a l I := fun hne => by
  obtain ⟨b, o, rfl, hlt, hr⟩ := h hne
  exact ⟨b, o, rfl, fun k w' hk i hi j hj => ((hI k w' hk).cell (p := ⟨b, _, none⟩) hlt).trans (hr i hi j hj)⟩
theorem alikeNode_pure (fn : Nat) (hent : ∀ args w, (callFunc fn args).run Tryd.prog w = .ok (.enter fn args) w) (f : Nd → Nd → Bool) (la lb : List Nd) (aa ab : Option Addr) (ca cb : Nat) (w : World) (hla : rowIn Nd.cells 7 w aa la) (hlb : rowIn Nd.cells 7 w ab lb) (hn : la.length ≤ 1048576) (hn' : lb.length ≤ 1048576)
    (hf : ∀ x ∈ la, ∀ y ∈ lb, ∀ w', Below w.heap.size w w' → Calls Tryd.prog fn #[x.val, y.val] w' fun r w'' => r = .returned (.bool (f x y)) ∧ Below w'.heap.size w' w'') :
    Calls Tryd.prog 39 #[.slice aa la.length ca, .slice ab lb.length cb, .func (.func fn) #[] #[]] w fun r w' => r = .returned (.bool (likeB f la lb)) ∧ Below w.heap.size w w' := by
  refine (alikeNode_calls fn #[] hent la lb aa ab ca cb w (fun k w' => Below w.heap.size w w' ∧ likeB f (la.take k) (lb.take k) = true) (fun w' => Below w.heap.size w w' ∧ likeB f la lb = false) (lieNode_of hla fun k w' h => h.1) (lieNode_of hlb fun k w' h => h.1)
    (fun k w' q h => ⟨⟨h.1.os, h.1.tape, h.1.output, h.1.size, h.1.block⟩, h.2⟩)
    (fun k hk hk' w' h => by
      refine (hf la[k] (List.getElem_mem hk) lb[k] (List.getElem_mem hk') w' h.1).mono ?_
      rintro r w2 ⟨rfl, hb2⟩
      have hB : Below w.heap.size w w2 := h.1.trans (hb2.mono h.1.size)
      refine ⟨_, rfl, fun hq => ⟨hB, ?_⟩, fun hq => ⟨hB, likeB_false f la lb k hk hk' hq⟩⟩
      rw [likeB_at f la lb k hk hk', h.2, hq]
      rfl)
    ⟨Below.refl _ _, by simp [likeB]⟩ hn hn').mono ?_
  rintro r w' ⟨q, rfl, h1, h2⟩
  cases q
  · rcases h2 rfl with h | h
    · exact ⟨by rw [likeB_len f la lb h.1], h.2.1⟩
    · exact ⟨by rw [h.2], h.1⟩
  · obtain ⟨e1, e2, e3⟩ := h1 rfl
    exact ⟨by rw [likeB_all e1 e3], e2⟩
theorem lieText_of {w : World} {a : Option Addr} {l : List ByteArray} (h : rowIn textOf 1 w a l) {I : Nat → World → Prop} (hI : ∀ k w', I k w' → Below w.heap.size w w') : lieText a l I := fun hne => by
  obtain ⟨b, o, rfl, hlt, hr⟩ := h hne
  exact ⟨b, o, rfl, fun k w' hk i hi j hj => ((hI k w' hk).cell (p := ⟨b, _, none⟩) hlt).trans (hr i hi j hj)⟩
theorem alikeText_pure (fn : Nat) (hent : ∀ args w, (callFunc fn args).run Tryd.prog w = .ok (.enter fn args) w) (f : ByteArray → ByteArray → Bool) (la lb : List ByteArray) (aa ab : Option Addr) (ca cb : Nat) (w : World) (hla : rowIn textOf 1 w aa la) (hlb : rowIn textOf 1 w ab lb) (hn : la.length ≤ 1048576) (hn' : lb.length ≤ 1048576)
    (hf : ∀ x ∈ la, ∀ y ∈ lb, ∀ w', Below w.heap.size w w' → Calls Tryd.prog fn #[(Value.string x), (Value.string y)] w' fun r w'' => r = .returned (.bool (f x y)) ∧ Below w'.heap.size w' w'') :
    Calls Tryd.prog 103 #[.slice aa la.length ca, .slice ab lb.length cb, .func (.func fn) #[] #[]] w fun r w' => r = .returned (.bool (likeB f la lb)) ∧ Below w.heap.size w w' := by
  refine (alikeText_calls fn #[] hent la lb aa ab ca cb w (fun k w' => Below w.heap.size w w' ∧ likeB f (la.take k) (lb.take k) = true) (fun w' => Below w.heap.size w w' ∧ likeB f la lb = false) (lieText_of hla fun k w' h => h.1) (lieText_of hlb fun k w' h => h.1)
    (fun k w' q h => ⟨⟨h.1.os, h.1.tape, h.1.output, h.1.size, h.1.block⟩, h.2⟩)
    (fun k hk hk' w' h => by
      refine (hf la[k] (List.getElem_mem hk) lb[k] (List.getElem_mem hk') w' h.1).mono ?_
      rintro r w2 ⟨rfl, hb2⟩
      have hB : Below w.heap.size w w2 := h.1.trans (hb2.mono h.1.size)
      refine ⟨_, rfl, fun hq => ⟨hB, ?_⟩, fun hq => ⟨hB, likeB_false f la lb k hk hk' hq⟩⟩
      rw [likeB_at f la lb k hk hk', h.2, hq]
      rfl)
    ⟨Below.refl _ _, by simp [likeB]⟩ hn hn').mono ?_
  rintro r w' ⟨q, rfl, h1, h2⟩
  cases q
  · rcases h2 rfl with h | h
    · exact ⟨by rw [likeB_len f la lb h.1], h.2.1⟩
    · exact ⟨by rw [h.2], h.1⟩
  · obtain ⟨e1, e2, e3⟩ := h1 rfl
    exact ⟨by rw [likeB_all e1 e3], e2⟩
end Go.Proofs.YthbjagmlcemefaaDoor
