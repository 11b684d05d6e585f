/- A shown expression read back: its text is that of no other one. No program in sight. -/
import Derived.Test.YtbahpbinilnfoaaDoorShowPlain
import Derived.Test.YtbahpbinilnfoaaDoorExSame
namespace Go.Proofs.YtbahpbinilnfoaaDoor
open Go.RowKit
open Ex.size Ex.text Ex.shape Ex.same
/-- A byte of a name or a number. -/
def wordy (c : UInt8) : Bool := decide ((48 ≤ c.toNat ∧ c.toNat ≤ 57) ∨ (65 ≤ c.toNat ∧ c.toNat ≤ 90) ∨ (97 ≤ c.toNat ∧ c.toNat ≤ 122) ∨ c.toNat = 95)
/-- The number that digits are. -/
def numOf (l : List UInt8) : Int := ((l.foldl (fun a c => a * 10 + (c.toNat - 48)) 0 : Nat) : Int)
theorem num_dec (u : Nat) : (Lib.decDigits u).foldl (fun a c => a * 10 + (c.toNat - 48)) 0 = u := by
  induction u using Nat.strongRecOn with
  | _ u ih =>
    rw [Lib.decDigits]
    split
    · rename_i h
      have : (UInt8.ofNat (48 + u)).toNat = 48 + u := by simp; omega
      simp only [List.foldl_cons, List.foldl_nil, this]
      omega
    · rename_i h
      have : (UInt8.ofNat (48 + u % 10)).toNat = 48 + u % 10 := by simp; omega
      rw [List.foldl_append, ih (u / 10) (by omega)]
      simp only [List.foldl_cons, List.foldl_nil, this]
      omega
theorem dec_digit (u : Nat) : ∀ c ∈ Lib.decDigits u, 48 ≤ c.toNat ∧ c.toNat ≤ 57 := by
  induction u using Nat.strongRecOn with
  | _ u ih =>
    rw [Lib.decDigits]
    split
    · rename_i h
      intro c hc
      rw [List.mem_singleton] at hc
      subst hc
      have : (UInt8.ofNat (48 + u)).toNat = 48 + u := by simp; omega
      omega
    · rename_i h
      intro c hc
      rcases List.mem_append.1 hc with hc | hc
      · exact ih (u / 10) (by omega) c hc
      · rw [List.mem_singleton] at hc
        subst hc
        have : (UInt8.ofNat (48 + u % 10)).toNat = 48 + u % 10 := by simp; omega
        omega
theorem dec_some (u : Nat) : Lib.decDigits u ≠ [] := by
  rw [Lib.decDigits]
  split <;> simp
theorem itoa_dec {n : Int} (h : 0 ≤ n) : Lib.itoa n = Lib.decDigits n.toNat := by rw [Lib.itoa, if_neg (by omega)]
theorem num_itoa {n : Int} (h : 0 ≤ n) : numOf (Lib.itoa n) = n := by
  rw [itoa_dec h, numOf, num_dec]
  omega
/-- What is left behind a text. -/
def eat (p r : List UInt8) : Option (List UInt8) := if p.isPrefixOf r then some (r.drop p.length) else none
theorem eat_app (p r : List UInt8) : eat p (p ++ r) = some r := by simp [eat]
theorem eat_one (c : UInt8) (r : List UInt8) : eat [c] (c :: r) = some r := by simp [eat]
theorem eat_not {c d : UInt8} (p r : List UInt8) (h : d ≠ c) : eat (c :: p) (d :: r) = none := by
  have : (c == d) = false := beq_false_of_ne (Ne.symm h)
  simp [eat, List.isPrefixOf, this]
theorem eat_nil (c : UInt8) (p : List UInt8) : eat (c :: p) [] = none := by simp [eat]
def signs : List (Int × List UInt8) := [(7, [32, 43, 32]), (8, [32, 45, 32]), (9, [32, 42, 32]), (10, [32, 47, 32]), (11, [32, 37, 32]), (12, [32, 61, 32]), (13, [32, 60, 62, 32]), (14, [32, 60, 32]), (15, [32, 60, 61, 32]), (16, [32, 62, 32]), (17, [32, 62, 61, 32]), (18, [32, 97, 110, 100, 32]), (19, [32, 111, 114, 32]), (21, [32, 102, 98, 121, 32]), (22, [32, 58, 58, 32]), (24, [32, 42, 94, 32]), (25, [32, 47, 94, 32]), (26, [32, 126, 62, 32])]
/-- The sign that stands ahead, and what stands behind it. -/
def opOf (r : List UInt8) : Option (Int × List UInt8) := (signs.find? fun x => x.2.isPrefixOf r).map fun x => (x.1, r.drop x.2.length)
def getW (r : List UInt8) : List UInt8 := r.takeWhile wordy
def dropW (r : List UInt8) : List UInt8 := r.dropWhile wordy
def one (kd it dn : Int) (nm : List UInt8) (l : List Ex) : Ex := .mk kd 0 ⟨nm.toArray⟩ it dn none 0 l
def argsR (rec : Int → List UInt8 → Option (Ex × List UInt8)) : Nat → List UInt8 → Option (List Ex × List UInt8)
  | 0, _ => none
  | g + 1, r => (rec 0 r).bind fun x =>
    match eat [44, 32] x.2 with
    | some t => (argsR rec g t).map fun y => (x.1 :: y.1, y.2)
    | none => (eat [41] x.2).map fun t => ([x.1], t)
def ifR (rec : Int → List UInt8 → Option (Ex × List UInt8)) (r : List UInt8) : Option (Ex × List UInt8) :=
  (eat [32] r).bind fun t => (rec 0 t).bind fun x => (eat [32, 116, 104, 101, 110, 32] x.2).bind fun t => (rec 0 t).bind fun y => (eat [32, 101, 108, 115, 101, 32] y.2).bind fun t => (rec 0 t).map fun z => (one 20 0 0 [] [x.1, y.1, z.1], z.2)
def wordR (rec : Int → List UInt8 → Option (Ex × List UInt8)) (g : Nat) (w t : List UInt8) : Option (Ex × List UInt8) :=
  if w = [105, 102] then ifR rec t
  else if w = [110, 111, 116] then (eat [32] t).bind fun t => (rec 4 t).map fun x => (one 6 0 0 [] [x.1], x.2)
  else if w = [116, 97, 105, 108] then (eat [32] t).bind fun t => (rec 8 t).map fun x => (one 23 0 0 [] [x.1], x.2)
  else if w = [116, 114, 117, 101] then some (one 3 1 0 [] [], t)
  else if w = [102, 97, 108, 115, 101] then some (one 3 0 0 [] [], t)
  else if (w.headD 0).toNat ≤ 57 then some (one 2 (numOf w) 0 [] [], t)
  else match eat [40] t with
    | some t => (argsR rec g t).map fun x => (one 4 0 0 w x.1, x.2)
    | none => some (one 1 0 0 w [], t)
def primR (rec : Int → List UInt8 → Option (Ex × List UInt8)) (g : Nat) (r : List UInt8) : Option (Ex × List UInt8) :=
  match eat [40] r with
  | some t => (rec 0 t).bind fun x => (eat [41] x.2).map fun t => (x.1, t)
  | none => match eat [45] r with
    | some t => (rec 8 ((eat [32] t).getD t)).map fun x => (one 5 0 0 [] [x.1], x.2)
    | none => wordR rec g (getW r) (dropW r)
def loopR (rec : Int → List UInt8 → Option (Ex × List UInt8)) : Nat → Int → Ex → List UInt8 → Option (Ex × List UInt8)
  | 0, _, _, _ => none
  | g + 1, n, e, r => match opOf r with
    | none => some (e, r)
    | some (kd, t) =>
      if strong kd < n then some (e, r)
      else if kd = 24 ∨ kd = 25 then loopR rec g n (one kd (numOf (getW t)) 0 [] [e]) (dropW t)
      else if kd = 26 then (eat [47] (dropW t)).bind fun t' => loopR rec g n (one 26 (numOf (getW t)) (numOf (getW t')) [] [e]) (dropW t')
      else (rec (secondOf kd) t).bind fun x => loopR rec g n (one kd 0 0 [] [e, x.1]) x.2
/-- Read an expression that holds at least so strongly. -/
def rd : Nat → Int → List UInt8 → Option (Ex × List UInt8)
  | 0, _, _ => none
  | f + 1, n, r => (primR (rd f) f r).bind fun x => loopR (rd f) f n x.1 x.2
/-- It is read so, with fuel enough. -/
def R (n : Int) (r : List UInt8) (e : Ex) (t : List UInt8) : Prop := ∃ F, ∀ f, F ≤ f → rd f n r = some (e, t)
def L (n : Int) (e : Ex) (r : List UInt8) (e' : Ex) (t : List UInt8) : Prop := ∃ F, ∀ f, F ≤ f → ∀ g, F ≤ g → loopR (rd f) g n e r = some (e', t)
def Pr1 (r : List UInt8) (e : Ex) (t : List UInt8) : Prop := ∃ F, ∀ f, F ≤ f → ∀ g, F ≤ g → primR (rd f) g r = some (e, t)
def A (r : List UInt8) (l : List Ex) (t : List UInt8) : Prop := ∃ F, ∀ f, F ≤ f → ∀ g, F ≤ g → argsR (rd f) g r = some (l, t)
theorem R.of {n : Int} {r t t' : List UInt8} {e e' : Ex} (h : Pr1 r e t) (k : L n e t e' t') : R n r e' t' := by
  obtain ⟨F, hF⟩ := h
  obtain ⟨G, hG⟩ := k
  refine ⟨F + G + 1, fun f hf => ?_⟩
  obtain ⟨f, rfl⟩ : ∃ g, f = g + 1 := ⟨f - 1, by omega⟩
  simp only [rd]
  rw [hF f (by omega) f (by omega)]
  exact hG f (by omega) f (by omega)
/-- No more of a name, a number, a call. -/
def noword (r : List UInt8) : Prop := ∀ c, r.head? = some c → wordy c = false ∧ c ≠ 40
/-- No sign that holds so strongly. -/
def stop (k : Int) (r : List UInt8) : Prop := noword r ∧ ∀ x, opOf r = some x → strong x.1 < k
theorem stop.mono {k m : Int} {r : List UInt8} (h : stop k r) (hk : k ≤ m) : stop m r := ⟨h.1, fun x hx => by have := h.2 x hx; omega⟩
theorem L.refl {n : Int} {e : Ex} {r : List UInt8} (h : stop n r) : L n e r e r := by
  refine ⟨1, fun f _ g hg => ?_⟩
  obtain ⟨g, rfl⟩ : ∃ k, g = k + 1 := ⟨g - 1, by omega⟩
  rw [loopR]
  split
  · rfl
  · rename_i kd t hx
    rw [if_pos (h.2 _ hx)]
theorem L.binary {n : Int} {e x e' : Ex} {kd : Int} {r t t' t'' : List UInt8} (ho : opOf r = some (kd, t)) (hn : n ≤ strong kd) (h4 : ¬ (kd = 24 ∨ kd = 25)) (h6 : kd ≠ 26) (h : R (secondOf kd) t x t') (k : L n (one kd 0 0 [] [e, x]) t' e' t'') : L n e r e' t'' := by
  obtain ⟨F, hF⟩ := h
  obtain ⟨G, hG⟩ := k
  refine ⟨F + G + 1, fun f hf g hg => ?_⟩
  obtain ⟨g, rfl⟩ : ∃ k, g = k + 1 := ⟨g - 1, by omega⟩
  rw [loopR, ho]
  simp only
  rw [if_neg (by omega), if_neg h4, if_neg h6, hF f (by omega)]
  exact hG f (by omega) g (by omega)
theorem L.behind {n : Int} {e e' : Ex} {kd : Int} {r t t'' : List UInt8} (ho : opOf r = some (kd, t)) (hn : n ≤ strong kd) (h4 : kd = 24 ∨ kd = 25) (k : L n (one kd (numOf (getW t)) 0 [] [e]) (dropW t) e' t'') : L n e r e' t'' := by
  obtain ⟨G, hG⟩ := k
  refine ⟨G + 1, fun f hf g hg => ?_⟩
  obtain ⟨g, rfl⟩ : ∃ k, g = k + 1 := ⟨g - 1, by omega⟩
  rw [loopR, ho]
  simp only
  rw [if_neg (by omega), if_pos h4]
  exact hG f (by omega) g (by omega)
theorem L.late {n : Int} {e e' : Ex} {r t t' t'' : List UInt8} (ho : opOf r = some (26, t)) (hn : n ≤ strong 26) (he : eat [47] (dropW t) = some t') (k : L n (one 26 (numOf (getW t)) (numOf (getW t')) [] [e]) (dropW t') e' t'') : L n e r e' t'' := by
  obtain ⟨G, hG⟩ := k
  refine ⟨G + 1, fun f hf g hg => ?_⟩
  obtain ⟨g, rfl⟩ : ∃ k, g = k + 1 := ⟨g - 1, by omega⟩
  rw [loopR, ho]
  show (if strong 26 < n then _ else _) = _
  rw [if_neg (by omega), if_neg (by omega), if_pos rfl, he]
  exact hG f (by omega) g (by omega)
theorem Pr1.paren {r t : List UInt8} {e : Ex} (h : R 0 r e (41 :: t)) : Pr1 (40 :: r) e t := by
  obtain ⟨F, hF⟩ := h
  refine ⟨F, fun f hf g _ => ?_⟩
  rw [primR, eat_one]
  simp only
  rw [hF f hf]
  simp [eat_one]
theorem Pr1.neg {r r' t : List UInt8} {e : Ex} (hr : (eat [32] r).getD r = r') (h : R 8 r' e t) : Pr1 (45 :: r) (one 5 0 0 [] [e]) t := by
  obtain ⟨F, hF⟩ := h
  refine ⟨F, fun f hf g _ => ?_⟩
  rw [primR, eat_not _ _ (by decide), eat_one]
  simp only
  rw [hr, hF f hf]
  rfl
theorem getW_app {l r : List UInt8} (hl : ∀ c ∈ l, wordy c = true) (hr : noword r) : getW (l ++ r) = l ∧ dropW (l ++ r) = r := by
  unfold getW dropW
  induction l with
  | nil =>
    cases r with
    | nil => exact ⟨rfl, rfl⟩
    | cons c r =>
      have := (hr c rfl).1
      simp [this]
  | cons c l ih =>
    have h1 := hl c (by simp)
    have := ih fun x hx => hl x (by simp [hx])
    simp [h1, this.1, this.2]
theorem prim_word {rec : Int → List UInt8 → Option (Ex × List UInt8)} {g : Nat} {l r : List UInt8} (h0 : l ≠ []) (hl : ∀ c ∈ l, wordy c = true) (hr : noword r ∨ ∃ t, r = 40 :: t) : primR rec g (l ++ r) = wordR rec g l r := by
  have hw : getW (l ++ r) = l ∧ dropW (l ++ r) = r := by
    rcases hr with hr | ⟨t, rfl⟩
    · exact getW_app hl hr
    · unfold getW dropW
      clear h0
      induction l with
      | nil => simp [wordy]
      | cons c l ih =>
        have h1 := hl c (by simp)
        have := ih fun x hx => hl x (by simp [hx])
        simp only [List.cons_append, List.takeWhile, List.dropWhile, h1]
        exact ⟨by rw [this.1], this.2⟩
  cases l with
  | nil => exact absurd rfl h0
  | cons c l =>
    have hc := hl c (by simp)
    have h40 : c ≠ 40 := by rintro rfl; revert hc; decide
    have h45 : c ≠ 45 := by rintro rfl; revert hc; decide
    rw [primR, hw.1, hw.2]
    rw [show (c :: l) ++ r = c :: (l ++ r) from rfl, eat_not _ _ h40, eat_not _ _ h45]
/-- Up to which strength signs behind it would be its own. -/
def tailOf (k : Int) : Int := if k = 20 then 0 else if k = 21 ∨ k = 22 then 1 else if k = 19 then 3 else if k = 18 then 4 else if k = 6 then 4 else if 12 ≤ k ∧ k ≤ 17 then 6 else if k = 7 ∨ k = 8 then 7 else if 9 ≤ k ∧ k ≤ 11 then 8 else if k = 5 ∨ k = 23 then 8 else 100
def isTwo (k : Int) : Prop := (7 ≤ k ∧ k ≤ 19) ∨ k = 21 ∨ k = 22
theorem kinds_nat : ∀ k : Nat, k < 27 → strong k ≤ tailOf k ∧ (isTwo k → strong k ≤ firstOf k ∧ secondOf k = tailOf k ∧ strong k < 9) := by
  have : ∀ k : Fin 27, strong (k.val : Int) ≤ tailOf (k.val : Int) ∧ (((7 ≤ (k.val : Int) ∧ (k.val : Int) ≤ 19) ∨ (k.val : Int) = 21 ∨ (k.val : Int) = 22) → strong (k.val : Int) ≤ firstOf (k.val : Int) ∧ secondOf (k.val : Int) = tailOf (k.val : Int) ∧ strong (k.val : Int) < 9) := by decide +kernel
  exact fun k hk => this ⟨k, hk⟩
theorem two_nat : ∀ k : Nat, k < 27 → ∀ a : Nat, a < 27 → isTwo k → firstOf k ≤ strong a → strong k < tailOf a := by
  have : ∀ k : Fin 27, ∀ a : Fin 27, (((7 ≤ (k.val : Int) ∧ (k.val : Int) ≤ 19) ∨ (k.val : Int) = 21 ∨ (k.val : Int) = 22) → firstOf (k.val : Int) ≤ strong (a.val : Int) → strong (k.val : Int) < tailOf (a.val : Int)) := by decide +kernel
  exact fun k hk a ha => this ⟨k, hk⟩ ⟨a, ha⟩
theorem nine_nat : ∀ a : Nat, a < 27 → 9 ≤ strong a → 9 < tailOf a := by
  have : ∀ a : Fin 27, 9 ≤ strong (a.val : Int) → 9 < tailOf (a.val : Int) := by decide +kernel
  exact fun a ha => this ⟨a, ha⟩
theorem args_range {kd : Int} {n : Nat} (h : argsOkB kd n = true) : 1 ≤ kd ∧ kd ≤ 26 := by
  simp only [argsOkB, decide_eq_true_eq] at h
  have hv : -1 ≤ argsOf kd := by omega
  unfold argsOf at hv
  repeat' split at hv
  all_goals omega
theorem kind_of {e : Ex} (h : e.shape = true) : ∃ k : Nat, k < 27 ∧ e.kd = k ∧ 1 ≤ k := by
  obtain ⟨kd, pl, nm, it, dn, a, cap, l⟩ := e
  simp only [Ex.shape, Bool.and_eq_true] at h
  have h1 := args_range h.1.1.1.1
  refine ⟨kd.toNat, by omega, ?_, by omega⟩
  show kd = (kd.toNat : Int)
  omega
theorem strong_tail {e : Ex} (h : e.shape = true) : strong e.kd ≤ tailOf e.kd := by
  obtain ⟨k, h1, h2, _⟩ := kind_of h
  rw [h2]
  exact (kinds_nat k h1).1
theorem op_two {kd : Int} (h : isTwo kd) (r : List UInt8) : opOf (signOf kd ++ r) = some (kd, r) := by
  have : kd = 7 ∨ kd = 8 ∨ kd = 9 ∨ kd = 10 ∨ kd = 11 ∨ kd = 12 ∨ kd = 13 ∨ kd = 14 ∨ kd = 15 ∨ kd = 16 ∨ kd = 17 ∨ kd = 18 ∨ kd = 19 ∨ kd = 21 ∨ kd = 22 := by unfold isTwo at h; omega
  rcases this with rfl | rfl | rfl | rfl | rfl | rfl | rfl | rfl | rfl | rfl | rfl | rfl | rfl | rfl | rfl <;> rfl
theorem op_up (r : List UInt8) : opOf ([32, 42, 94, 32] ++ r) = some (24, r) := rfl
theorem op_down (r : List UInt8) : opOf ([32, 47, 94, 32] ++ r) = some (25, r) := rfl
theorem op_late (r : List UInt8) : opOf ([32, 126, 62, 32] ++ r) = some (26, r) := rfl
theorem op_first {c : UInt8} (r : List UInt8) (h : c ≠ 32) : opOf (c :: r) = none := by
  have : ((32 : UInt8) == c) = false := beq_false_of_ne (Ne.symm h)
  simp [opOf, signs, List.isPrefixOf, this]
theorem noword_first {c : UInt8} (r : List UInt8) (h : wordy c = false) (h4 : c ≠ 40) : noword (c :: r) := fun d hd => by
  simp only [List.head?_cons, Option.some.injEq] at hd
  subst hd
  exact ⟨h, h4⟩
theorem stop_first {c : UInt8} (k : Int) (r : List UInt8) (h : wordy c = false) (h4 : c ≠ 40) (h3 : c ≠ 32) : stop k (c :: r) :=
  ⟨noword_first r h h4, fun x hx => by rw [op_first r h3] at hx; cases hx⟩
theorem op_nil : opOf [] = none := rfl
theorem stop_none (k : Int) : stop k [] := ⟨fun c hc => (by cases hc), fun x hx => (by rw [op_nil] at hx; cases hx)⟩
theorem stop_then (k : Int) (r : List UInt8) : stop k ([32, 116, 104, 101, 110, 32] ++ r) := ⟨noword_first _ (by decide) (by decide), fun x hx => by
  have : opOf ([32, 116, 104, 101, 110, 32] ++ r) = none := rfl
  rw [this] at hx; cases hx⟩
theorem stop_else (k : Int) (r : List UInt8) : stop k ([32, 101, 108, 115, 101, 32] ++ r) := ⟨noword_first _ (by decide) (by decide), fun x hx => by
  have : opOf ([32, 101, 108, 115, 101, 32] ++ r) = none := rfl
  rw [this] at hx; cases hx⟩
/-- The tree but for its places. -/
def Ex.bare : Ex → Ex
  | .mk kd _ nm it dn _ _ l => .mk kd 0 nm it dn none 0 (bares l)
where bares : List Ex → List Ex
  | [] => []
  | e :: r => e.bare :: bares r
open Ex.bare
theorem bare_same : ∀ (e e' : Ex), e.bare = e'.bare → e.same e' = true
  | .mk kd pl nm it dn a cap l, .mk kd' pl' nm' it' dn' a' cap' l', h => by
    simp only [Ex.bare, Ex.mk.injEq] at h
    obtain ⟨rfl, -, rfl, rfl, rfl, -, -, h⟩ := h
    have := all l l' h
    simp [Ex.same, this.1, this.2]
where all : ∀ (l l' : List Ex), bares l = bares l' → l.length = l'.length ∧ sames l l' = true
  | [], [], _ => ⟨rfl, rfl⟩
  | [], e' :: r', h => by simp [bares] at h
  | e :: r, [], h => by simp [bares] at h
  | e :: r, e' :: r', h => by
    simp only [bares, List.cons.injEq] at h
    have := all r r' h.2
    simp [sames, bare_same e e' h.1, this.1, this.2]
theorem same_bare : ∀ (e e' : Ex), e.same e' = true → e.bare = e'.bare
  | .mk kd pl nm it dn a cap l, .mk kd' pl' nm' it' dn' a' cap' l', h => by
    simp only [Ex.same, Bool.and_eq_true, beq_iff_eq] at h
    obtain ⟨⟨⟨⟨⟨rfl, h1⟩, rfl⟩, rfl⟩, h2⟩, h3⟩ := h
    have hn : nm = nm' := by
      rw [ByteArray.toList_eq, ByteArray.toList_eq] at h1
      obtain ⟨⟨x⟩⟩ := nm
      obtain ⟨⟨y⟩⟩ := nm'
      simp only at h1
      rw [h1]
    subst hn
    simp only [Ex.bare, all l l' h2 h3]
where all : ∀ (l l' : List Ex), l.length = l'.length → sames l l' = true → bares l = bares l'
  | [], [], _, _ => rfl
  | [], e' :: r', h, _ => by simp at h
  | e :: r, [], h, _ => by simp at h
  | e :: r, e' :: r', h, g => by
    simp only [sames, Bool.and_eq_true] at g
    simp only [bares, same_bare e e' g.1, all r r' (by simpa using h) g.2]
/-- The bare tree says all that the text says. -/
theorem text_bare : ∀ e : Ex, e.bare.text = e.text ∧ e.bare.kd = e.kd
  | .mk kd pl nm it dn a cap l => by
    simp only [Ex.bare, Ex.text, all l, and_self]
where all : ∀ l : List Ex, texts (bares l) = texts l
  | [] => rfl
  | e :: r => by simp only [bares, texts, text_bare e, all r]
theorem strong_pos (k : Int) : 0 ≤ strong k := by unfold strong; repeat' split
                                                  all_goals omega
theorem name_bytes {nm : ByteArray} (h : nameB nm = true) : nm.data.toList ≠ [] ∧ (∀ c ∈ nm.data.toList, wordy c = true) ∧ 57 < (nm.data.toList.headD 0).toNat ∧ nm.data.toList ∉ wordList := by
  simp only [nameB, decide_eq_true_eq] at h
  obtain ⟨h1, -, h2, h3, h4⟩ := h
  obtain ⟨⟨l⟩⟩ := nm
  have hsz : (ByteArray.mk ⟨l⟩).size = l.length := rfl
  have hby : ∀ j (hj : j < l.length), byteAt ⟨⟨l⟩⟩ j = (l[j].toNat : Int) := fun j hj => by rw [byteAt, dif_pos (by rw [hsz]; exact hj)]; rfl
  rw [hsz] at h1 h4
  refine ⟨fun e => by simp only at e; rw [e] at h1; simp at h1, fun c hc => ?_, ?_, ?_⟩
  · obtain ⟨j, hj, rfl⟩ := List.getElem_of_mem hc
    simp only [plainB, decide_eq_true_eq] at h4
    have := h4 j hj
    rw [hby j hj] at this
    simp only [letterB, digitB, decide_eq_true_eq] at this
    simp only [wordy, decide_eq_true_eq]
    omega
  · rw [hby 0 h1] at h2
    simp only [letterB, decide_eq_true_eq] at h2
    cases l with
    | nil => simp at h1
    | cons c l => simp only [List.getElem_cons_zero] at h2; simp only [List.headD_cons]; omega
  · simpa [wordB] using h3
theorem no_name {nm : ByteArray} (h : nm.toList.isEmpty = true) : nm = ⟨#[]⟩ := by
  rw [ByteArray.toList_eq] at h
  obtain ⟨⟨l⟩⟩ := nm
  have : l = [] := by simpa using h
  rw [this]
theorem bare_one (kd pl it dn : Int) (nm : ByteArray) (a : Option Addr) (cap : Nat) (l : List Ex) : Ex.bare (.mk kd pl nm it dn a cap l) = one kd it dn nm.data.toList (bares l) := by
  obtain ⟨⟨x⟩⟩ := nm
  rfl
/-- Whatever stands behind it, if that does not go on with it: it is read. -/
def ReadsBack (e : Ex) : Prop := ∀ n r e' t, n ≤ strong e.kd → stop (tailOf e.kd) r → L n e.bare r e' t → R n (e.text ++ r) e' t
theorem read_par {a : Ex} (ih : ReadsBack a) {k n : Int} (hn : n ≤ k) {r t : List UInt8} {e' : Ex} (hs : k ≤ strong a.kd → stop (tailOf a.kd) r) (hL : L n a.bare r e' t) : R n (par k (a.kd, a.text) ++ r) e' t := by
  unfold par
  split
  · have e1 : (40 :: (a.text ++ [41])) ++ r = 40 :: (a.text ++ 41 :: r) := by simp
    rw [e1]
    have h41 : ∀ k, stop k (41 :: r) := fun k => stop_first k r (by decide) (by decide) (by decide)
    exact R.of (Pr1.paren (ih 0 _ _ _ (strong_pos _) (h41 _) (L.refl (h41 _)))) hL
  · rename_i h
    simp only at h
    exact ih n _ _ _ (by omega) (hs (by omega)) hL
theorem read_at {a : Ex} (ih : ReadsBack a) (hsh : a.shape = true) {k : Int} {r : List UInt8} (hs : stop k r) : R k (par k (a.kd, a.text) ++ r) a.bare r :=
  read_par ih (Int.le_refl _) (fun h => hs.mono (by have := strong_tail hsh; omega)) (L.refl hs)
theorem read_0 {a : Ex} (ih : ReadsBack a) (hsh : a.shape = true) {r : List UInt8} (hs : stop 0 r) : R 0 (a.text ++ r) a.bare r :=
  ih 0 r _ _ (strong_pos _) (hs.mono (by have := strong_tail hsh; have := strong_pos a.kd; omega)) (L.refl hs)
theorem read_args (l : List Ex) (h0 : l ≠ []) (ih : ∀ a ∈ l, ReadsBack a ∧ a.shape = true) (r : List UInt8) : A (between [44, 32] (l.map Ex.text) ++ 41 :: r) (bares l) r := by
  induction l with
  | nil => exact absurd rfl h0
  | cons a l ihl =>
    have h1 := ih a (by simp)
    cases l with
    | nil =>
      obtain ⟨F, hF⟩ := read_0 h1.1 h1.2 (stop_first 0 r (c := 41) (by decide) (by decide) (by decide))
      refine ⟨F + 1, fun f hf g hg => ?_⟩
      obtain ⟨g, rfl⟩ : ∃ k, g = k + 1 := ⟨g - 1, by omega⟩
      have e1 : between [44, 32] ([a].map Ex.text) = a.text := by simp [between, rests]
      rw [argsR, e1, hF f (by omega)]
      simp only [Option.bind_some]
      rw [eat_not _ _ (by decide), eat_one]
      rfl
    | cons b l =>
      obtain ⟨G, hG⟩ := ihl (by simp) fun x hx => ih x (by simp only [List.mem_cons] at hx ⊢; exact .inr hx)
      have e1 : between [44, 32] ((a :: b :: l).map Ex.text) ++ 41 :: r = a.text ++ ([44, 32] ++ (between [44, 32] ((b :: l).map Ex.text) ++ 41 :: r)) := by
        simp [between, rests]
      obtain ⟨F, hF⟩ := read_0 h1.1 h1.2 (r := [44, 32] ++ (between [44, 32] ((b :: l).map Ex.text) ++ 41 :: r)) (stop_first 0 _ (c := 44) (by decide) (by decide) (by decide))
      refine ⟨F + G + 1, fun f hf g hg => ?_⟩
      obtain ⟨g, rfl⟩ : ∃ k, g = k + 1 := ⟨g - 1, by omega⟩
      rw [argsR, e1, hF f (by omega)]
      simp only [Option.bind_some]
      rw [eat_app]
      simp only
      rw [hG f (by omega) g (by omega)]
      rfl
theorem two_text {kd pl it dn : Int} {nm : ByteArray} {a : Option Addr} {cap : Nat} {x y : Ex} (hk : isTwo kd) : Ex.text (.mk kd pl nm it dn a cap [x, y]) = par (firstOf kd) (x.kd, x.text) ++ signOf kd ++ par (secondOf kd) (y.kd, y.text) := by
  unfold isTwo at hk
  rw [Ex.text, textBy, if_neg (by omega), if_neg (by omega), if_neg (by omega), if_neg (by omega), if_neg (by omega), if_neg (by omega), if_neg (by omega), if_neg (by omega), if_neg (by omega), if_neg (by omega), if_neg (by omega)]
  rfl
theorem if_head (p : Prop) [Decidable p] {a b : List UInt8} (ha : a.head? = some 32) (hb : b.head? = some 32) : (if p then a else b).head? = some 32 := by
  by_cases h : p
  · rw [if_pos h]; exact ha
  · rw [if_neg h]; exact hb
theorem sign_head (kd : Int) : (signOf kd).head? = some 32 := by
  unfold signOf
  repeat refine if_head _ rfl ?_
  rfl
theorem sign_first (kd : Int) : ∃ t, signOf kd = 32 :: t := by
  have := sign_head kd
  cases h : signOf kd with
  | nil => rw [h] at this; cases this
  | cons c t =>
    rw [h, List.head?_cons, Option.some.injEq] at this
    subst this
    exact ⟨t, rfl⟩
theorem reads_two {kd pl : Int} {a : Option Addr} {cap : Nat} {x y : Ex} (hk : isTwo kd) (hx : ReadsBack x) (hy : ReadsBack y) (sx : x.shape = true) (sy : y.shape = true) : ReadsBack (.mk kd pl ⟨#[]⟩ 0 0 a cap [x, y]) := by
  intro n r e' t hn hs hL
  simp only at hn hs
  obtain ⟨k, rfl⟩ : ∃ k : Nat, kd = k := ⟨kd.toNat, by unfold isTwo at hk; omega⟩
  have hk27 : k < 27 := by unfold isTwo at hk; omega
  obtain ⟨k1, k2⟩ := kinds_nat k hk27
  obtain ⟨k3, k4, k5⟩ := k2 hk
  obtain ⟨q, q1, q2, _⟩ := kind_of sx
  rw [two_text hk, List.append_assoc, List.append_assoc]
  obtain ⟨st, hst⟩ := sign_first (k : Int)
  refine read_par hx (by omega) (fun h => ⟨?_, fun z hz => ?_⟩) ?_
  · rw [hst]
    exact noword_first _ (by decide) (by decide)
  · rw [op_two hk] at hz
    simp only [Option.some.injEq] at hz
    subst hz
    rw [q2] at h ⊢
    exact two_nat k hk27 q q1 hk h
  · exact L.binary (op_two hk _) hn (by unfold isTwo at hk; omega) (by unfold isTwo at hk; omega) (read_at hy sy (by rw [k4]; exact hs)) hL
theorem reads_up {kd pl it : Int} {a : Option Addr} {cap : Nat} {x : Ex} (hk : kd = 24 ∨ kd = 25) (hi : 0 ≤ it) (hx : ReadsBack x) (sx : x.shape = true) : ReadsBack (.mk kd pl ⟨#[]⟩ it 0 a cap [x]) := by
  intro n r e' t hn hs hL
  obtain ⟨q, q1, q2, _⟩ := kind_of sx
  have hit : ∀ c ∈ Lib.itoa it, wordy c = true := fun c hc => by
    rw [itoa_dec hi] at hc
    have := dec_digit _ c hc
    simp only [wordy, decide_eq_true_eq]
    omega
  obtain ⟨g1, g2⟩ := getW_app hit hs.1
  have hl : n ≤ 9 := by rcases hk with rfl | rfl <;> exact hn
  rcases hk with rfl | rfl
  · have e1 : Ex.text (.mk 24 pl ⟨#[]⟩ it 0 a cap [x]) ++ r = par 9 (x.kd, x.text) ++ ([32, 42, 94, 32] ++ (Lib.itoa it ++ r)) := by
      rw [← List.append_assoc, ← List.append_assoc]; rfl
    rw [e1]
    refine read_par hx hl (fun h => ⟨noword_first _ (by decide) (by decide), fun z hz => ?_⟩) ?_
    · rw [op_up] at hz
      simp only [Option.some.injEq] at hz
      subst hz
      rw [q2] at h ⊢
      exact nine_nat q q1 h
    · refine L.behind (op_up _) hl (.inl rfl) ?_
      rw [g1, g2, num_itoa hi]
      exact hL
  · have e1 : Ex.text (.mk 25 pl ⟨#[]⟩ it 0 a cap [x]) ++ r = par 9 (x.kd, x.text) ++ ([32, 47, 94, 32] ++ (Lib.itoa it ++ r)) := by
      rw [← List.append_assoc, ← List.append_assoc]; rfl
    rw [e1]
    refine read_par hx hl (fun h => ⟨noword_first _ (by decide) (by decide), fun z hz => ?_⟩) ?_
    · rw [op_down] at hz
      simp only [Option.some.injEq] at hz
      subst hz
      rw [q2] at h ⊢
      exact nine_nat q q1 h
    · refine L.behind (op_down _) hl (.inr rfl) ?_
      rw [g1, g2, num_itoa hi]
      exact hL
theorem reads_late {pl it dn : Int} {a : Option Addr} {cap : Nat} {x : Ex} (hi : 0 ≤ it) (hd : 0 ≤ dn) (hx : ReadsBack x) (sx : x.shape = true) : ReadsBack (.mk 26 pl ⟨#[]⟩ it dn a cap [x]) := by
  intro n r e' t hn hs hL
  obtain ⟨q, q1, q2, _⟩ := kind_of sx
  have hit : ∀ n : Int, 0 ≤ n → ∀ c ∈ Lib.itoa n, wordy c = true := fun n hn c hc => by
    rw [itoa_dec hn] at hc
    have := dec_digit _ c hc
    simp only [wordy, decide_eq_true_eq]
    omega
  obtain ⟨g1, g2⟩ := getW_app (hit dn hd) hs.1
  obtain ⟨f1, f2⟩ := getW_app (r := [47] ++ (Lib.itoa dn ++ r)) (hit it hi) (noword_first _ (by decide) (by decide))
  have hl : n ≤ 9 := hn
  have e1 : Ex.text (.mk 26 pl ⟨#[]⟩ it dn a cap [x]) ++ r = par 9 (x.kd, x.text) ++ ([32, 126, 62, 32] ++ (Lib.itoa it ++ ([47] ++ (Lib.itoa dn ++ r)))) := by
    rw [← List.append_assoc, ← List.append_assoc, ← List.append_assoc, ← List.append_assoc]; rfl
  rw [e1]
  refine read_par hx hl (fun h => ⟨noword_first _ (by decide) (by decide), fun z hz => ?_⟩) ?_
  · rw [op_late] at hz
    simp only [Option.some.injEq] at hz
    subst hz
    rw [q2] at h ⊢
    exact nine_nat q q1 h
  · refine L.late (op_late _) hl (by rw [f2, eat_app]) ?_
    rw [f1, g1, g2, num_itoa hi, num_itoa hd]
    exact hL
theorem reads_if {pl : Int} {a : Option Addr} {cap : Nat} {x y z : Ex} (hx : ReadsBack x) (hy : ReadsBack y) (hz : ReadsBack z) (sx : x.shape = true) (sy : y.shape = true) (sz : z.shape = true) : ReadsBack (.mk 20 pl ⟨#[]⟩ 0 0 a cap [x, y, z]) := by
  intro n r e' t hn hs hL
  have e1 : Ex.text (.mk 20 pl ⟨#[]⟩ 0 0 a cap [x, y, z]) ++ r = [105, 102] ++ (32 :: (x.text ++ ([32, 116, 104, 101, 110, 32] ++ (y.text ++ ([32, 101, 108, 115, 101, 32] ++ (z.text ++ r)))))) := by
    show ([105, 102, 32] ++ x.text ++ [32, 116, 104, 101, 110, 32] ++ y.text ++ [32, 101, 108, 115, 101, 32] ++ z.text) ++ r = _
    simp
  rw [e1]
  obtain ⟨F1, h1⟩ := read_0 hx sx (stop_then 0 (y.text ++ ([32, 101, 108, 115, 101, 32] ++ (z.text ++ r))))
  obtain ⟨F2, h2⟩ := read_0 hy sy (stop_else 0 (z.text ++ r))
  obtain ⟨F3, h3⟩ := read_0 hz sz (r := r) hs
  refine R.of (e := one 20 0 0 [] [x.bare, y.bare, z.bare]) (t := r) ⟨F1 + F2 + F3, fun f hf g hg => ?_⟩ hL
  rw [prim_word (by simp) (by decide) (.inl (noword_first _ (by decide) (by decide)))]
  rw [wordR, if_pos rfl, ifR, eat_one]
  simp only [Option.bind_some]
  rw [h1 f (by omega)]
  simp only [Option.bind_some]
  rw [eat_app]
  simp only [Option.bind_some]
  rw [h2 f (by omega)]
  simp only [Option.bind_some]
  rw [eat_app]
  simp only [Option.bind_some]
  rw [h3 f (by omega)]
  rfl
theorem reads_not {pl : Int} {a : Option Addr} {cap : Nat} {x : Ex} (hx : ReadsBack x) (sx : x.shape = true) : ReadsBack (.mk 6 pl ⟨#[]⟩ 0 0 a cap [x]) := by
  intro n r e' t hn hs hL
  have e1 : Ex.text (.mk 6 pl ⟨#[]⟩ 0 0 a cap [x]) ++ r = [110, 111, 116] ++ (32 :: (par 4 (x.kd, x.text) ++ r)) := rfl
  rw [e1]
  obtain ⟨F1, h1⟩ := read_at hx sx (k := 4) (r := r) hs
  refine R.of (e := one 6 0 0 [] [x.bare]) (t := r) ⟨F1, fun f hf g hg => ?_⟩ hL
  rw [prim_word (by simp) (by decide) (.inl (noword_first _ (by decide) (by decide)))]
  rw [wordR, if_neg (by decide), if_pos rfl, eat_one]
  simp only [Option.bind_some]
  rw [h1 f (by omega)]
  rfl
theorem reads_tail {pl : Int} {a : Option Addr} {cap : Nat} {x : Ex} (hx : ReadsBack x) (sx : x.shape = true) : ReadsBack (.mk 23 pl ⟨#[]⟩ 0 0 a cap [x]) := by
  intro n r e' t hn hs hL
  have e1 : Ex.text (.mk 23 pl ⟨#[]⟩ 0 0 a cap [x]) ++ r = [116, 97, 105, 108] ++ (32 :: (par 8 (x.kd, x.text) ++ r)) := rfl
  rw [e1]
  obtain ⟨F1, h1⟩ := read_at hx sx (k := 8) (r := r) hs
  refine R.of (e := one 23 0 0 [] [x.bare]) (t := r) ⟨F1, fun f hf g hg => ?_⟩ hL
  rw [prim_word (by simp) (by decide) (.inl (noword_first _ (by decide) (by decide)))]
  rw [wordR, if_neg (by decide), if_neg (by decide), if_pos rfl, eat_one]
  simp only [Option.bind_some]
  rw [h1 f (by omega)]
  rfl
/-- A text does not begin with a blank. -/
theorem par_first {k : Int} {kd : Int} {s : List UInt8} (h : ∃ c t, s = c :: t ∧ c ≠ 32) : ∃ c t, par k (kd, s) = c :: t ∧ c ≠ 32 := by
  obtain ⟨c, t, rfl, hc⟩ := h
  unfold par
  split
  · exact ⟨40, _, rfl, by decide⟩
  · exact ⟨c, t, rfl, hc⟩
theorem app_first {s r : List UInt8} (h : ∃ c t, s = c :: t ∧ c ≠ 32) : ∃ c t, s ++ r = c :: t ∧ c ≠ 32 := by
  obtain ⟨c, t, rfl, hc⟩ := h
  exact ⟨c, t ++ r, rfl, hc⟩
theorem word_first {s : List UInt8} (h0 : s ≠ []) (h : ∀ c ∈ s, wordy c = true) : ∃ c t, s = c :: t ∧ c ≠ 32 := by
  cases s with
  | nil => exact absurd rfl h0
  | cons c t => exact ⟨c, t, rfl, by rintro rfl; exact absurd (h 32 (by simp)) (by decide)⟩
theorem itoa_wordy {n : Int} (hn : 0 ≤ n) : ∀ c ∈ Lib.itoa n, wordy c = true := fun c hc => by
  rw [itoa_dec hn] at hc
  have := dec_digit _ c hc
  simp only [wordy, decide_eq_true_eq]
  omega
theorem itoa_some {n : Int} (hn : 0 ≤ n) : Lib.itoa n ≠ [] := by rw [itoa_dec hn]; exact dec_some _
theorem text_1 (pl it dn : Int) (nm : ByteArray) (a : Option Addr) (cap : Nat) (l : List Ex) : Ex.text (.mk 1 pl nm it dn a cap l) = nm.data.toList := rfl
theorem text_2 (pl it dn : Int) (nm : ByteArray) (a : Option Addr) (cap : Nat) (l : List Ex) : Ex.text (.mk 2 pl nm it dn a cap l) = Lib.itoa it := rfl
theorem text_3 (pl it dn : Int) (nm : ByteArray) (a : Option Addr) (cap : Nat) (l : List Ex) : Ex.text (.mk 3 pl nm it dn a cap l) = if it = 0 then [102, 97, 108, 115, 101] else [116, 114, 117, 101] := rfl
theorem text_4 (pl it dn : Int) (nm : ByteArray) (a : Option Addr) (cap : Nat) (l : List Ex) : Ex.text (.mk 4 pl nm it dn a cap l) = nm.data.toList ++ [40] ++ between [44, 32] (l.map Ex.text) ++ [41] := by rw [← texts_map]; rfl
theorem text_5 (pl it dn : Int) (nm : ByteArray) (a : Option Addr) (cap : Nat) (x : Ex) : Ex.text (.mk 5 pl nm it dn a cap [x]) = [45] ++ (if x.kd = 5 then [32] else []) ++ par 8 (x.kd, x.text) := rfl
theorem no_words {w : List UInt8} (h : w ∉ wordList) : w ≠ [105, 102] ∧ w ≠ [110, 111, 116] ∧ w ≠ [116, 97, 105, 108] ∧ w ≠ [116, 114, 117, 101] ∧ w ≠ [102, 97, 108, 115, 101] := by
  refine ⟨?_, ?_, ?_, ?_, ?_⟩ <;> rintro rfl <;> exact h (by decide)
theorem eat_noword {r : List UInt8} (h : noword r) : eat [40] r = none := by
  cases r with
  | nil => exact eat_nil _ _
  | cons c r => exact eat_not _ _ (h c rfl).2
theorem reads_var {pl : Int} {nm : ByteArray} {a : Option Addr} {cap : Nat} (hn : nameB nm = true) : ReadsBack (.mk 1 pl nm 0 0 a cap []) := by
  intro n r e' t hk hs hL
  obtain ⟨h1, h2, h3, h4⟩ := name_bytes hn
  obtain ⟨w1, w2, w3, w4, w5⟩ := no_words h4
  rw [text_1]
  rw [bare_one] at hL
  refine R.of (t := r) ⟨0, fun f _ g _ => ?_⟩ hL
  rw [prim_word h1 h2 (.inl hs.1), wordR, if_neg w1, if_neg w2, if_neg w3, if_neg w4, if_neg w5, if_neg (by omega), eat_noword hs.1]
  rfl
theorem reads_int {pl it : Int} {a : Option Addr} {cap : Nat} (hi : 0 ≤ it) : ReadsBack (.mk 2 pl ⟨#[]⟩ it 0 a cap []) := by
  intro n r e' t hk hs hL
  have h2 := itoa_wordy hi
  have h1 := itoa_some hi
  have h3 : ((Lib.itoa it).headD 0).toNat ≤ 57 ∧ 48 ≤ ((Lib.itoa it).headD 0).toNat := by
    rw [itoa_dec hi] at h1 ⊢
    have := dec_digit it.toNat
    cases hd : Lib.decDigits it.toNat with
    | nil => exact absurd hd h1
    | cons c l =>
      have := this c (by rw [hd]; simp)
      simp only [List.headD_cons]
      omega
  have hw : ∀ c l, Lib.itoa it = c :: l → 57 < c.toNat → False := fun c l h hc => by rw [h] at h3; simp only [List.headD_cons] at h3; omega
  rw [text_2]
  rw [bare_one] at hL
  refine R.of (t := r) ⟨0, fun f _ g _ => ?_⟩ hL
  rw [prim_word h1 h2 (.inl hs.1), wordR, if_neg fun h => hw _ _ h (by decide), if_neg fun h => hw _ _ h (by decide), if_neg fun h => hw _ _ h (by decide), if_neg fun h => hw _ _ h (by decide), if_neg fun h => hw _ _ h (by decide), if_pos h3.1, num_itoa hi]
  rfl
theorem reads_bool {pl it : Int} {a : Option Addr} {cap : Nat} (hi : it = 0 ∨ it = 1) : ReadsBack (.mk 3 pl ⟨#[]⟩ it 0 a cap []) := by
  intro n r e' t hk hs hL
  rw [text_3]
  rw [bare_one] at hL
  refine R.of (t := r) ⟨0, fun f _ g _ => ?_⟩ hL
  rcases hi with rfl | rfl
  · rw [if_pos rfl, prim_word (by simp) (by decide) (.inl hs.1), wordR, if_neg (by decide), if_neg (by decide), if_neg (by decide), if_neg (by decide), if_pos rfl]
    rfl
  · rw [if_neg (by decide), prim_word (by simp) (by decide) (.inl hs.1), wordR, if_neg (by decide), if_neg (by decide), if_neg (by decide), if_pos rfl]
    rfl
theorem reads_call {pl : Int} {nm : ByteArray} {a : Option Addr} {cap : Nat} {l : List Ex} (hn : nameB nm = true) (h0 : l ≠ []) (ih : ∀ a ∈ l, ReadsBack a ∧ a.shape = true) : ReadsBack (.mk 4 pl nm 0 0 a cap l) := by
  intro n r e' t hk hs hL
  obtain ⟨h1, h2, h3, h4⟩ := name_bytes hn
  obtain ⟨w1, w2, w3, w4, w5⟩ := no_words h4
  obtain ⟨F, hF⟩ := read_args l h0 ih r
  have e1 : Ex.text (.mk 4 pl nm 0 0 a cap l) ++ r = nm.data.toList ++ (40 :: (between [44, 32] (l.map Ex.text) ++ 41 :: r)) := by rw [text_4]; simp
  rw [e1]
  rw [bare_one] at hL
  refine R.of (t := r) ⟨F, fun f hf g hg => ?_⟩ hL
  rw [prim_word h1 h2 (.inr ⟨_, rfl⟩), wordR, if_neg w1, if_neg w2, if_neg w3, if_neg w4, if_neg w5, if_neg (by omega), eat_one]
  simp only
  rw [hF f hf g hg]
  rfl
theorem text_first (m : Nat) : ∀ e : Ex, e.size ≤ m → e.shape = true → ∃ c t, e.text = c :: t ∧ c ≠ 32 := by
  induction m with
  | zero => intro e h; have := size_pos e; omega
  | succ m ih =>
    rintro ⟨kd, pl, nm, it, dn, a, cap, l⟩ hm h
    have hsub : ∀ x ∈ l, ∃ c t, x.text = c :: t ∧ c ≠ 32 := fun x hx => by
      obtain ⟨i, hi, rfl⟩ := List.getElem_of_mem hx
      have h1 := size_arg hi
      simp only [Ex.size] at hm
      have h2 : (l[i]).shape = true := by
        simp only [Ex.shape, Bool.and_eq_true] at h
        cases hq : (l[i]).shape
        · have := shapes_false l i hi hq
          rw [this] at h
          exact absurd h.2 (by decide)
        · rfl
      exact ih _ (by omega) h2
    simp only [Ex.shape, Bool.and_eq_true] at h
    obtain ⟨⟨⟨⟨ha, hnm⟩, hit⟩, hdn⟩, -⟩ := h
    obtain ⟨r1, r2⟩ := args_range ha
    by_cases k1 : kd = 1
    · subst k1
      obtain ⟨n1, n2, -⟩ := name_bytes (by simpa [nameOkB] using hnm)
      exact word_first n1 n2
    by_cases k2 : kd = 2
    · subst k2
      have hi : 0 ≤ it := by simpa [intOkB] using hit
      exact word_first (itoa_some hi) (itoa_wordy hi)
    by_cases k3 : kd = 3
    · subst k3
      rw [text_3]
      split <;> exact ⟨_, _, rfl, by decide⟩
    by_cases k4 : kd = 4
    · subst k4
      obtain ⟨n1, n2, -⟩ := name_bytes (by simpa [nameOkB] using hnm)
      rw [text_4, List.append_assoc, List.append_assoc]
      exact app_first (word_first n1 n2)
    by_cases k5 : kd = 5
    · subst k5; exact ⟨45, _, rfl, by decide⟩
    by_cases k6 : kd = 6
    · subst k6; exact ⟨110, _, rfl, by decide⟩
    by_cases k23 : kd = 23
    · subst k23; exact ⟨116, _, rfl, by decide⟩
    by_cases k20 : kd = 20
    · subst k20; exact ⟨105, _, rfl, by decide⟩
    simp only [argsOkB, decide_eq_true_eq] at ha
    have hl : l ≠ [] := by
      rintro rfl
      simp only [List.length_nil] at ha
      have : argsOf kd = 0 := by omega
      unfold argsOf at this
      repeat' split at this
      all_goals omega
    obtain ⟨x, l, rfl⟩ : ∃ x r, l = x :: r := by cases l with | nil => exact absurd rfl hl | cons x r => exact ⟨x, r, rfl⟩
    have hx := hsub x (by simp)
    have hp : ∀ k s, ∃ c t, par k (x.kd, x.text) ++ s = c :: t ∧ c ≠ 32 := fun k s => app_first (par_first hx)
    have hg : (texts (x :: l)).getD 0 (0, []) = (x.kd, x.text) := rfl
    rw [Ex.text, textBy, if_neg k1, if_neg k2, if_neg k3, if_neg k4, if_neg k5, if_neg k23, if_neg k6, if_neg k20, hg]
    split
    · rw [List.append_assoc]; exact hp _ _
    split
    · rw [List.append_assoc]; exact hp _ _
    split
    · rw [List.append_assoc, List.append_assoc, List.append_assoc]; exact hp _ _
    · rw [List.append_assoc]; exact hp _ _
theorem reads_neg {pl : Int} {a : Option Addr} {cap : Nat} {x : Ex} (hx : ReadsBack x) (sx : x.shape = true) : ReadsBack (.mk 5 pl ⟨#[]⟩ 0 0 a cap [x]) := by
  intro n r e' t hn hs hL
  have h1 := read_at hx sx (k := 8) (r := r) hs
  rw [text_5]
  show R n (45 :: ((if x.kd = 5 then [32] else []) ++ par 8 (x.kd, x.text) ++ r)) e' t
  refine R.of (e := one 5 0 0 [] [x.bare]) (t := r) (Pr1.neg (r := (if x.kd = 5 then [32] else []) ++ par 8 (x.kd, x.text) ++ r) ?_ h1) hL
  split
  · simp [eat_one]
  · obtain ⟨c, t, hc, h3⟩ := app_first (r := r) (par_first (k := 8) (kd := x.kd) (text_first _ x (Nat.le_refl _) sx))
    rw [List.nil_append, hc, eat_not _ _ h3]
    rfl
theorem reads_all (m : Nat) : ∀ e : Ex, e.size ≤ m → e.shape = true → ReadsBack e := by
  induction m with
  | zero => intro e h; have := size_pos e; omega
  | succ m ih =>
    rintro ⟨kd, pl, nm, it, dn, a, cap, l⟩ hm h
    have hsub : ∀ x ∈ l, ReadsBack x ∧ x.shape = true := fun x hx => by
      obtain ⟨i, hi, rfl⟩ := List.getElem_of_mem hx
      have h1 := size_arg hi
      simp only [Ex.size] at hm
      have h2 : (l[i]).shape = true := by
        simp only [Ex.shape, Bool.and_eq_true] at h
        cases hq : (l[i]).shape
        · have := shapes_false l i hi hq
          rw [this] at h
          exact absurd h.2 (by decide)
        · rfl
      exact ⟨ih _ (by omega) h2, h2⟩
    simp only [Ex.shape, Bool.and_eq_true] at h
    obtain ⟨⟨⟨⟨ha, hnm⟩, hit⟩, hdn⟩, -⟩ := h
    obtain ⟨r1, r2⟩ := args_range ha
    simp only [argsOkB, decide_eq_true_eq] at ha
    by_cases k4 : kd = 4
    · subst k4
      have i0 : it = 0 := by simpa [intOkB] using hit
      have d0 : dn = 0 := by simpa [denOkB] using hdn
      subst i0 d0
      refine reads_call (by simpa [nameOkB] using hnm) (fun h => ?_) hsub
      subst h
      simp [argsOf] at ha
    by_cases k1 : kd = 1
    · subst k1
      have i0 : it = 0 := by simpa [intOkB] using hit
      have d0 : dn = 0 := by simpa [denOkB] using hdn
      have hl : l = [] := List.length_eq_zero_iff.1 (by simp [argsOf] at ha; omega)
      subst i0 d0 hl
      exact reads_var (by simpa [nameOkB] using hnm)
    obtain rfl : nm = ⟨#[]⟩ := no_name (by simpa [nameOkB, k1, k4] using hnm)
    have two : ∀ {l : List Ex}, l.length = 2 → ∃ x y, l = [x, y] := fun {l} h => by
      match l, h with
      | [x, y], _ => exact ⟨x, y, rfl⟩
    have lone : ∀ {l : List Ex}, l.length = 1 → ∃ x, l = [x] := fun {l} h => by
      match l, h with
      | [x], _ => exact ⟨x, rfl⟩
    by_cases k2 : kd = 2
    · subst k2
      have d0 : dn = 0 := by simpa [denOkB] using hdn
      have hl : l = [] := List.length_eq_zero_iff.1 (by simp [argsOf] at ha; omega)
      subst d0 hl
      exact reads_int (by simpa [intOkB] using hit)
    by_cases k3 : kd = 3
    · subst k3
      have d0 : dn = 0 := by simpa [denOkB] using hdn
      have hl : l = [] := List.length_eq_zero_iff.1 (by simp [argsOf] at ha; omega)
      subst d0 hl
      exact reads_bool (by simpa [intOkB] using hit)
    by_cases k26 : kd = 26
    · subst k26
      obtain ⟨x, rfl⟩ := lone (l := l) (by simp [argsOf] at ha; omega)
      obtain ⟨hx, sx⟩ := hsub x (by simp)
      have hd : 1 ≤ dn := by simpa [denOkB] using hdn
      exact reads_late (by simpa [intOkB] using hit) (by omega) hx sx
    have d0 : dn = 0 := by simpa [denOkB, k26] using hdn
    subst d0
    by_cases k25 : kd = 24 ∨ kd = 25
    · obtain ⟨x, rfl⟩ := lone (l := l) (by rcases k25 with rfl | rfl <;> simp [argsOf] at ha <;> omega)
      obtain ⟨hx, sx⟩ := hsub x (by simp)
      have hd : 1 ≤ it := by simpa [intOkB, k25, k2, k3, k26] using hit
      exact reads_up k25 (by omega) hx sx
    have i0 : it = 0 := by simpa [intOkB, k25, k2, k3, k26] using hit
    subst i0
    by_cases k5 : kd = 5
    · subst k5
      obtain ⟨x, rfl⟩ := lone (l := l) (by simp [argsOf] at ha; omega)
      obtain ⟨hx, sx⟩ := hsub x (by simp)
      exact reads_neg hx sx
    by_cases k6 : kd = 6
    · subst k6
      obtain ⟨x, rfl⟩ := lone (l := l) (by simp [argsOf] at ha; omega)
      obtain ⟨hx, sx⟩ := hsub x (by simp)
      exact reads_not hx sx
    by_cases k23 : kd = 23
    · subst k23
      obtain ⟨x, rfl⟩ := lone (l := l) (by simp [argsOf] at ha; omega)
      obtain ⟨hx, sx⟩ := hsub x (by simp)
      exact reads_tail hx sx
    by_cases k20 : kd = 20
    · subst k20
      obtain ⟨x, y, z, rfl⟩ : ∃ x y z, l = [x, y, z] := by
        have h3 : l.length = 3 := by simp [argsOf] at ha; omega
        match l, h3 with
        | [x, y, z], _ => exact ⟨x, y, z, rfl⟩
      obtain ⟨hx, sx⟩ := hsub x (by simp)
      obtain ⟨hy, sy⟩ := hsub y (by simp)
      obtain ⟨hz, sz⟩ := hsub z (by simp)
      exact reads_if hx hy hz sx sy sz
    have hk : isTwo kd := by unfold isTwo; omega
    have h2 : argsOf kd = 2 := by unfold isTwo at hk; unfold argsOf; rw [if_neg (by omega), if_neg (by omega), if_neg (by omega), if_pos hk]
    obtain ⟨x, y, rfl⟩ := two (l := l) (by rw [h2] at ha; omega)
    obtain ⟨hx, sx⟩ := hsub x (by simp)
    obtain ⟨hy, sy⟩ := hsub y (by simp)
    exact reads_two hk hx hy sx sy
/-- P5.3, in plain words: two trees that may be have one text just where they are the same. -/
theorem text_apart (e e' : Ex) (h : e.shape = true) (h' : e'.shape = true) : (e.text = e'.text) ↔ e.same e' = true := by
  constructor
  · intro ht
    have r1 := reads_all _ e (Nat.le_refl _) h
    have r2 := reads_all _ e' (Nat.le_refl _) h'
    obtain ⟨F, hF⟩ := read_0 r1 h (r := []) (stop_none 0)
    obtain ⟨G, hG⟩ := read_0 r2 h' (r := []) (stop_none 0)
    have f1 := hF (F + G) (by omega)
    have f2 := hG (F + G) (by omega)
    rw [ht, f2] at f1
    simp only [Option.some.injEq, Prod.mk.injEq, and_true] at f1
    exact bare_same _ _ f1.symm
  · intro hs
    have hb := same_bare _ _ hs
    rw [← (text_bare e).1, ← (text_bare e').1, hb]
end Go.Proofs.YtbahpbinilnfoaaDoor
