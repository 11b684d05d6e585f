/- The texts of expressions, params, nodes, programs, in plain words: lists of bytes. No program in sight. -/
import Derived.Test.YtbahpbinilnfoaaDoorTreeProgs
import Derived.Test.YtbahpbinilnfoaaDoorExShapes
import Derived.Lib.ItoaNum
import Derived.Lib.Join
namespace Go.Proofs.YtbahpbinilnfoaaDoor
open Go.RowKit
open Ex.size Ex.depth Ex.lies Ex.bulk Ex.good Ex.shape
/-- How strongly a kind holds. -/
def strong (k : Int) : Int :=
  if k = 20 then 0 else if k = 21 ∨ k = 22 then 1 else if k = 19 then 2 else if k = 18 then 3 else if k = 6 then 4 else if 12 ≤ k ∧ k ≤ 17 then 5 else if k = 7 ∨ k = 8 then 6 else if 9 ≤ k ∧ k ≤ 11 then 7 else if k = 5 ∨ k = 23 then 8 else if 24 ≤ k then 9 else 10
/-- A text at a strength. -/
def par (n : Int) (x : Int × List UInt8) : List UInt8 := if strong x.1 < n then 40 :: (x.2 ++ [41]) else x.2
/-- What stands between two Args, blanks too; how strongly these must hold. -/
def signOf (k : Int) : List UInt8 :=
  if k = 7 then [32, 43, 32] else if k = 8 then [32, 45, 32] else if k = 9 then [32, 42, 32] else if k = 10 then [32, 47, 32] else if k = 11 then [32, 37, 32] else if k = 12 then [32, 61, 32] else if k = 13 then [32, 60, 62, 32] else if k = 14 then [32, 60, 32] else if k = 15 then [32, 60, 61, 32] else if k = 16 then [32, 62, 32] else if k = 17 then [32, 62, 61, 32] else if k = 18 then [32, 97, 110, 100, 32] else if k = 19 then [32, 111, 114, 32] else if k = 21 then [32, 102, 98, 121, 32] else [32, 58, 58, 32]
def firstOf (k : Int) : Int := if k = 21 ∨ k = 22 then 2 else if 12 ≤ k ∧ k ≤ 17 then 6 else strong k
def secondOf (k : Int) : Int := if k = 21 ∨ k = 22 then 1 else if 12 ≤ k ∧ k ≤ 17 then 6 else strong k + 1
def rests (sep : List UInt8) : List (List UInt8) → List UInt8
  | [] => []
  | x :: r => sep ++ x ++ rests sep r
/-- Texts with something between them. -/
def between (sep : List UInt8) : List (List UInt8) → List UInt8
  | [] => []
  | x :: r => x ++ rests sep r
theorem rests_app (sep : List UInt8) (a b : List (List UInt8)) : rests sep (a ++ b) = rests sep a ++ rests sep b := by
  induction a with
  | nil => rfl
  | cons x r ih => simp only [List.cons_append, rests, ih, List.append_assoc]
theorem between_at (sep : List UInt8) (l : List (List UInt8)) (k : Nat) (h : k < l.length) : between sep (l.take (k + 1)) = between sep (l.take k) ++ (if 0 < k then sep else []) ++ l[k] := by
  rw [List.take_succ_eq_append_getElem h]
  cases hl : l.take k with
  | nil =>
    have : k = 0 := by
      have := congrArg List.length hl
      simp only [List.length_take, List.length_nil] at this
      omega
    subst this
    simp [between, rests]
  | cons x r =>
    have : 0 < k := by
      rcases Nat.eq_zero_or_pos k with h0 | h0
      · subst h0; simp at hl
      · exact h0
    simp only [List.cons_append, between, rests_app, rests, if_pos this, List.append_assoc, List.append_nil]
theorem rests_len (sep : List UInt8) (l : List (List UInt8)) (m : Nat) (h : ∀ x ∈ l, x.length ≤ m) : (rests sep l).length ≤ l.length * (sep.length + m) := by
  induction l with
  | nil => simp [rests]
  | cons x r ih =>
    have h1 := h x (by simp)
    have h2 := ih fun y hy => h y (by simp [hy])
    simp only [rests, List.length_append, List.length_cons, Nat.succ_mul]
    omega
/-- The text of an expression, by the kinds and texts of its Args. -/
def textBy (kd : Int) (nm : List UInt8) (it dn : Int) (a : List (Int × List UInt8)) : List UInt8 :=
  if kd = 1 then nm
  else if kd = 2 then Lib.itoa it
  else if kd = 3 then (if it = 0 then [102, 97, 108, 115, 101] else [116, 114, 117, 101])
  else if kd = 4 then nm ++ [40] ++ between [44, 32] (a.map (·.2)) ++ [41]
  else if kd = 5 then [45] ++ (if (a.getD 0 (0, [])).1 = 5 then [32] else []) ++ par 8 (a.getD 0 (0, []))
  else if kd = 23 then [116, 97, 105, 108, 32] ++ par 8 (a.getD 0 (0, []))
  else if kd = 6 then [110, 111, 116, 32] ++ par 4 (a.getD 0 (0, []))
  else if kd = 20 then [105, 102, 32] ++ (a.getD 0 (0, [])).2 ++ [32, 116, 104, 101, 110, 32] ++ (a.getD 1 (0, [])).2 ++ [32, 101, 108, 115, 101, 32] ++ (a.getD 2 (0, [])).2
  else if kd = 24 then par 9 (a.getD 0 (0, [])) ++ [32, 42, 94, 32] ++ Lib.itoa it
  else if kd = 25 then par 9 (a.getD 0 (0, [])) ++ [32, 47, 94, 32] ++ Lib.itoa it
  else if kd = 26 then par 9 (a.getD 0 (0, [])) ++ [32, 126, 62, 32] ++ Lib.itoa it ++ [47] ++ Lib.itoa dn
  else par (firstOf kd) (a.getD 0 (0, [])) ++ signOf kd ++ par (secondOf kd) (a.getD 1 (0, []))
/-- The text of an expression. -/
def Ex.text : Ex → List UInt8
  | .mk kd _ nm it dn _ _ l => textBy kd nm.data.toList it dn (texts l)
where texts : List Ex → List (Int × List UInt8)
  | [] => []
  | e :: r => (e.kd, e.text) :: texts r
open Ex.text
theorem texts_len (l : List Ex) : (texts l).length = l.length := by
  induction l with
  | nil => rfl
  | cons e r ih => simp only [texts, List.length_cons, ih]
theorem texts_get (l : List Ex) (i : Nat) (h : i < l.length) : (texts l)[i]'(by rw [texts_len]; exact h) = (l[i].kd, l[i].text) := by
  induction l generalizing i with
  | nil => simp at h
  | cons e r ih =>
    cases i with
    | zero => rfl
    | succ i => simpa [texts] using ih i (by simpa using h)
theorem texts_map (l : List Ex) : (texts l).map (·.2) = l.map Ex.text := by
  induction l with
  | nil => rfl
  | cons e r ih => simp only [texts, List.map_cons, ih]
/-- A param's text. -/
def Pm.text (p : Pm) : List UInt8 :=
  p.nm.data.toList ++ [58, 32] ++ (if p.ty = 2 then [98, 111, 111, 108] else [105, 110, 116]) ++ (if p.rt = true then [32, 114, 97, 116, 101, 32, 40] ++ Lib.itoa p.pd ++ [44, 32] ++ Lib.itoa p.st ++ [41] else []) ++ (if 0 < p.du then [32, 100, 117, 101, 32] ++ Lib.itoa p.du else [])
/-- What stands ahead of an equation's sign. -/
def leftOf (ns : List ByteArray) : List UInt8 := if ns.length = 1 then between [44, 32] (ns.map (·.data.toList)) else [40] ++ between [44, 32] (ns.map (·.data.toList)) ++ [41]
def Eqn.text (q : Eqn) : List UInt8 := [32, 32] ++ leftOf q.ns ++ [32, 61, 32] ++ q.e.text ++ [59, 10]
def pmsText (l : List Pm) : List UInt8 := between [59, 32] (l.map Pm.text)
def eqsText (l : List Eqn) : List UInt8 := (l.map Eqn.text).flatten
def Nd.text (n : Nd) : List UInt8 :=
  (if n.fl = true then [102, 108, 111, 119, 32] else [110, 111, 100, 101, 32]) ++ n.nm.data.toList ++ [40] ++ pmsText n.ins ++ [41, 32, 114, 101, 116, 117, 114, 110, 115, 32, 40] ++ pmsText n.outs ++ [41, 10] ++ (if n.vars = [] then [] else [118, 97, 114, 32] ++ pmsText n.vars ++ [59, 10]) ++ [108, 101, 116, 10] ++ eqsText n.eqs ++ [116, 101, 108, 10]
def ndsText (l : List Nd) : List UInt8 := (l.map Nd.text).flatten
end Go.Proofs.YtbahpbinilnfoaaDoor
