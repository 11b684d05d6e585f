/- Programs as they lie in memory: params, equations, nodes. -/
import Derived.Test.YtbahpbinilnfoaaDoorExWeigh
namespace Go.Proofs.YtbahpbinilnfoaaDoor
open Go.RowKit
open Ex.size Ex.depth Ex.lies Ex.bulk Ex.good
/-- A param. -/
structure Pm where
  nm : ByteArray
  ty : Int
  pl : Int
  rt : Bool
  pd : Int
  st : Int
  du : Int
def Pm.cells (p : Pm) : List Value := [.string p.nm, .int .u8 p.ty, .int .i64 p.pl, .bool p.rt, .int .i64 p.pd, .int .i64 p.st, .int .i64 p.du]
def Pm.val (p : Pm) : Value := .agg p.cells.toArray
/-- An equation: where its names lie, the room there, the names; its place; its expression. -/
structure Eqn where
  na : Option Addr
  nc : Nat
  ns : List ByteArray
  pq : Int
  e : Ex
def Eqn.cells (q : Eqn) : List Value := .slice q.na q.ns.length q.nc :: .int .i64 q.pq :: q.e.cells
def Eqn.val (q : Eqn) : Value := .agg q.cells.toArray
/-- A node. -/
structure Nd where
  fl : Bool
  nm : ByteArray
  pl : Int
  ia : Option Addr
  ic : Nat
  ins : List Pm
  oa : Option Addr
  oc : Nat
  outs : List Pm
  va : Option Addr
  vc : Nat
  vars : List Pm
  qa : Option Addr
  qc : Nat
  eqs : List Eqn
def Nd.cells (n : Nd) : List Value := [.bool n.fl, .string n.nm, .int .i64 n.pl, .slice n.ia n.ins.length n.ic, .slice n.oa n.outs.length n.oc, .slice n.va n.vars.length n.vc, .slice n.qa n.eqs.length n.qc]
def Nd.val (n : Nd) : Value := .agg n.cells.toArray
/-- A row of things, each so many cells, lies at a place. -/
def rowAt {α : Type} (f : α → List Value) (z : Nat) (w : World) (b o : Nat) (l : List α) : Prop := ∀ i (h : i < l.length) j, j < z → w.cell? ⟨b, o + i * z + j, none⟩ = (f l[i])[j]?
/-- A slice of such lies in the world. -/
def rowIn {α : Type} (f : α → List Value) (z : Nat) (w : World) (a : Option Addr) (l : List α) : Prop := l ≠ [] → ∃ b o, a = some ⟨b, o, none⟩ ∧ b < w.heap.size ∧ rowAt f z w b o l
theorem rowIn_below {α : Type} {f : α → List Value} {z : Nat} {w w' : World} {a : Option Addr} {l : List α} (h : rowIn f z w a l) (hb : Below w.heap.size w w') : rowIn f z w' a l := fun hne => by
  obtain ⟨b, o, rfl, hlt, hr⟩ := h hne
  exact ⟨b, o, rfl, Nat.lt_of_lt_of_le hlt hb.size, fun i hi j hj => (hb.cell (p := ⟨b, _, none⟩) hlt).trans (hr i hi j hj)⟩
def textOf (s : ByteArray) : List Value := [.string s]
def Eqn.lies (w : World) (q : Eqn) : Prop := rowIn textOf 1 w q.na q.ns ∧ q.e.lies w
def Nd.lies (w : World) (n : Nd) : Prop := rowIn Pm.cells 7 w n.ia n.ins ∧ rowIn Pm.cells 7 w n.oa n.outs ∧ rowIn Pm.cells 7 w n.va n.vars ∧ rowIn Eqn.cells 8 w n.qa n.eqs ∧ ∀ q ∈ n.eqs, q.lies w
theorem Eqn.lies_below {w w' : World} {q : Eqn} (h : q.lies w) (hb : Below w.heap.size w w') : q.lies w' := ⟨rowIn_below h.1 hb, Go.Proofs.YtbahpbinilnfoaaDoor.lies_below hb _ h.2⟩
theorem Nd.lies_below {w w' : World} {n : Nd} (h : n.lies w) (hb : Below w.heap.size w w') : n.lies w' := ⟨rowIn_below h.1 hb, rowIn_below h.2.1 hb, rowIn_below h.2.2.1 hb, rowIn_below h.2.2.2.1 hb, fun q hq => Eqn.lies_below (h.2.2.2.2 q hq) hb⟩
end Go.Proofs.YtbahpbinilnfoaaDoor
