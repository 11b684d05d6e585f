import Derived.Test.YthbgnpkgglbhjaaGreatDoorTreeMays
import Derived.Test.YthbgnpkgglbhjaaGreatDoorExSame
namespace Go.Proofs.YthbgnpkgglbhjaaGreatDoor
open Go.RowKit
open Ex.size Ex.depth Ex.lies Ex.bulk Ex.good Ex.same
def likeB{α:Type}(f:α→α→Bool):List α→List α→Bool
 | x::r,y::s=>f x y&&likeB f r s
 | [],[]=>true
 | [],_::_=>false
 | _::_,[]=>false
theorem likeB_at{α:Type}(f:α→α→Bool)(la lb:List α)(k:Nat)(h:k<la.length)(h':k<lb.length):likeB f (la.take (k+1)) (lb.take (k+1))=(likeB f (la.take k) (lb.take k)&&f la[k] lb[k]):=by
 induction la generalizing lb k with
 | nil=>simp at h
 | cons x r ih =>
  cases lb with
  | nil=>simp at h'
  | cons y s =>
   cases k with
   | zero=>simp[likeB]
   | succ k=>simp only[List.take_succ_cons,likeB,List.getElem_cons_succ,ih s k (by simpa using h) (by simpa using h'),Bool.and_assoc]
theorem likeB_false{α:Type}(f:α→α→Bool)(la lb:List α)(k:Nat)(h:k<la.length)(h':k<lb.length)(g:f la[k] lb[k]=false):likeB f la lb=false:=by
 induction la generalizing lb k with
 | nil=>simp at h
 | cons x r ih =>
  cases lb with
  | nil=>simp at h'
  | cons y s =>
   cases k with
   | zero=>simp only[List.getElem_cons_zero] at g;simp[likeB,g]
   | succ k=>simp[likeB,ih s k (by simpa using h) (by simpa using h') (by simpa using g)]
theorem likeB_len{α:Type}(f:α→α→Bool)(la lb:List α)(h:la.length≠lb.length):likeB f la lb=false:=by
 induction la generalizing lb with
 | nil =>
  cases lb with
  | nil=>simp at h
  | cons y s=>simp[likeB]
 | cons x r ih =>
  cases lb with
  | nil=>simp[likeB]
  | cons y s=>simp[likeB,ih s (by simpa using h)]
theorem likeB_all{α:Type}{f:α→α→Bool}{la lb:List α}(hl:la.length=lb.length)(h:likeB f (la.take la.length) (lb.take la.length)=true):likeB f la lb=true:=by
 rw[List.take_length,hl,List.take_length] at h
 exact h
theorem likeB_refl{α:Type}{f:α→α→Bool}(l:List α)(h:∀x∈l,f x x=true):likeB f l l=true:=by
 induction l with
 | nil=>rfl
 | cons x r ih=>rw[likeB,h x (by simp),ih fun y hy=>h y (by simp[hy])];rfl
def textEq(x y:ByteArray):Bool:=x.toList==y.toList
def pmSame(p q:Pm):Bool:=textEq p.nm q.nm&&(p.ty==q.ty)&&(p.rt==q.rt)&&(p.pd==q.pd)&&(p.st==q.st)&&(p.du==q.du)
def eqSame(p q:Eqn):Bool:=likeB textEq p.ns q.ns&&p.e.same q.e
def ndSame(m n:Nd):Bool:=((m.fl==n.fl)&&textEq m.nm n.nm)&&(likeB pmSame m.ins n.ins&&(likeB pmSame m.outs n.outs&&(likeB pmSame m.vars n.vars&&likeB eqSame m.eqs n.eqs)))
structure LikeIs(W:World)(f:Nat)(args:Array Value)(q:Bool):Prop where
 out:∀w',Hid (Below W.heap.size W w')→Calls Tryz.prog f args w' fun r w''=>r=.returned (.bool q)∧Below w'.heap.size w' w''
end Go.Proofs.YthbgnpkgglbhjaaGreatDoor
