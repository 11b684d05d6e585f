import Derived.Test.YthbgnpkgglbhjaaGreatDoorLexEnds
import Derived.Test.YthbgnpkgglbhjaaGreatDoorTreeMays
namespace Go.Proofs.YthbgnpkgglbhjaaGreatDoor
open Go.RowKit
def Shr{α:Type}(p:PR α)(ts:List Tok):Prop:=∀a t2,p=.ok (a,t2)→t2.length≤ts.length
def NoF{α:Type}(p:PR α):Prop:=∀k,p≠.error (k,0)
theorem Shr.ok{α:Type}{a:α}{t ts:List Tok}(h:t.length≤ts.length):Shr (.ok (a,t):PR α) ts:=fun _ _ e=>by
 simp only[Except.ok.injEq,Prod.mk.injEq] at e
 rw[←e.2];exact h
theorem Shr.error{α:Type}{k:Nat × Int}{ts:List Tok}:Shr (.error k:PR α) ts:=fun _ _ e=>by cases e
theorem Shr.trans{α:Type}{p:PR α}{t ts:List Tok}(h:Shr p t)(hl:t.length≤ts.length):Shr p ts:=fun a t2 e=>Nat.le_trans (h a t2 e) hl
theorem Shr.then{α β:Type}{p:PR α}{f:α→List Tok→PR β}{ts:List Tok}(h:Shr p ts)(hf:∀a t2,Shr (f a t2) t2):Shr (p.then f) ts:=fun b t3 e=>by
 cases p with
 | error k=>cases e
 | ok q=>exact Nat.le_trans (hf q.1 q.2 b t3 e) (h q.1 q.2 rfl)
theorem NoF.ok{α:Type}{x:α × List Tok}:NoF (.ok x:PR α):=fun _ e=>by cases e
theorem NoF.error{α:Type}{k:Nat}{e:Int}(h:e≠0):NoF (.error (k,e):PR α):=fun _ e'=>by
 simp only[Except.error.injEq,Prod.mk.injEq] at e'
 exact h e'.2
theorem NoF.then{α β:Type}{p:PR α}{f:α→List Tok→PR β}(h:NoF p)(hf:∀a t2,p=.ok (a,t2)→NoF (f a t2)):NoF (p.then f):=fun k e=>by
 cases p with
 | error q=>exact h k (show Except.error q=_ from by injection e with e;rw[e])
 | ok q=>exact hf q.1 q.2 rfl k e
theorem tail_le(ts:List Tok):ts.tail.length≤ts.length:=by rw[List.length_tail];omega
theorem tail_lt{ts:List Tok}(h:(hd ts).text≠⟨#[]⟩∨(hd ts).kind≠0):ts.tail.length<ts.length:=by
 cases ts with
 | nil=>rcases h with h|h<;>exact absurd rfl h
 | cons t r=>simp
theorem sgn_ne{rule k:Int}{ts:List Tok}(h:sgn rule ts=some k):(hd ts).text≠⟨#[]⟩:=by
 cases ts with
 | nil =>
  have:sgOf ([]:List UInt8)=none:=by decide +kernel
  simp only[sgn,hd,List.headD_nil,noTok] at h
  rw[this] at h
  cases h
 | cons t r=>exact sgn_text h
theorem want_shr(s:ByteArray)(ts:List Tok):Shr (wantT s ts) ts:=by
 unfold wantT
 split
 ·exact Shr.ok (tail_le _)
 ·exact Shr.error
theorem want_nof(s:ByteArray)(ts:List Tok):NoF (wantT s ts):=by
 unfold wantT
 split
 ·exact NoF.ok
 ·exact NoF.error (by decide)
theorem num_shr(l:Int)(ts:List Tok):Shr (numT l ts) ts:=by
 unfold numT
 split
 ·exact Shr.ok (tail_le _)
 ·exact Shr.error
theorem num_nof(l:Int)(ts:List Tok):NoF (numT l ts):=by
 unfold numT
 split
 ·exact NoF.ok
 ·exact NoF.error (by decide)
theorem name_shr(ts:List Tok):Shr (nameT ts) ts:=by
 unfold nameT
 split
 ·exact Shr.ok (tail_le _)
 ·exact Shr.error
theorem name_nof(ts:List Tok):NoF (nameT ts):=by
 unfold nameT
 split
 ·exact NoF.ok
 ·exact NoF.error (by decide)
theorem open_shr{α:Type}{op:Nat}{ts:List Tok}{f:List Tok→PR α}(h:Shr (f ts.tail) ts.tail):Shr (openT op ts f) ts:=by
 unfold openT
 split
 ·exact Shr.error
 ·exact h.trans (tail_le _)
theorem open_nof{α:Type}{op:Nat}{ts:List Tok}{f:List Tok→PR α}(h:NoF (f ts.tail)):NoF (openT op ts f):=by
 unfold openT
 split
 ·exact NoF.error (by decide)
 ·exact h
theorem late_shr(ts:List Tok):Shr (lateT ts) ts:=by
 unfold lateT
 refine(num_shr 0 ts).then fun a t1=>?_
 split
 ·exact((num_shr 1 t1.tail).then fun b t2=>Shr.ok (Nat.le_refl _)).trans (tail_le _)
 ·exact Shr.ok (Nat.le_refl _)
theorem late_nof(ts:List Tok):NoF (lateT ts):=by
 unfold lateT
 refine(num_nof 0 ts).then fun a t1 _=>?_
 split
 ·exact(num_nof 1 t1.tail).then fun b t2 _=>NoF.ok
 ·exact NoF.ok
theorem chain_shr(part:List Tok→PR Ex)(hp:∀ts,Shr (part ts) ts)(rule:Int):∀n e ts,Shr (chainL part rule n e ts) ts
 | 0,_,_=>Shr.error
 | n+1,e,ts=>by
  unfold chainL
  split
  ·exact Shr.ok (Nat.le_refl _)
  ·exact((hp ts.tail).then fun e2 t2=>chain_shr part hp rule n _ t2).trans (tail_le _)
theorem chain_nof(part:List Tok→PR Ex)(hp:∀ts,Shr (part ts) ts)(rule:Int)(m:Nat)(hn:∀ts,ts.length<m→NoF (part ts)):∀n e ts,ts.length≤m→ts.length<n→NoF (chainL part rule n e ts)
 | 0,_,_,_,h=>absurd h (Nat.not_lt_zero _)
 | n+1,_,ts,hm,h=>by
  unfold chainL
  split
  ·exact NoF.ok
  ·rename_i k hs
   have h1:=tail_lt (Or.inl (sgn_ne hs))
   exact(hn ts.tail (by omega)).then fun e2 t2 h2=>chain_nof part hp rule m hn n _ t2 (by have:=hp _ _ _ h2;omega) (by have:=hp _ _ _ h2;omega)
theorem post_shr:∀n e ts,Shr (postL n e ts) ts
 | 0,_,_=>Shr.error
 | n+1,e,ts=>by
  unfold postL
  split
  ·exact Shr.ok (Nat.le_refl _)
  ·split
   ·exact((late_shr ts.tail).then fun x t2=>post_shr n _ t2).trans (tail_le _)
   ·exact((num_shr 1 ts.tail).then fun x t2=>post_shr n _ t2).trans (tail_le _)
theorem post_nof:∀n e ts,ts.length<n→NoF (postL n e ts)
 | 0,_,_,h=>absurd h (Nat.not_lt_zero _)
 | n+1,_,ts,h=>by
  unfold postL
  split
  ·exact NoF.ok
  ·rename_i k hs
   have h1:=tail_lt (Or.inl (sgn_ne hs))
   split
   ·exact(late_nof ts.tail).then fun x t2 h2=>post_nof n _ t2 (by have:=late_shr _ _ _ h2;omega)
   ·exact(num_nof 1 ts.tail).then fun x t2 h2=>post_nof n _ t2 (by have:=num_shr _ _ _ _ h2;omega)
theorem listL_shr{α:Type}(part:List Tok→PR α)(hp:∀ts,Shr (part ts) ts)(s:ByteArray):∀n l ts,Shr (listL part s n l ts) ts
 | 0,_,_=>Shr.error
 | n+1,l,ts=>by
  unfold listL
  split
  ·exact((hp ts.tail).then fun e2 t2=>listL_shr part hp s n _ t2).trans (tail_le _)
  ·exact Shr.ok (Nat.le_refl _)
theorem listL_nof{α:Type}(part:List Tok→PR α)(hp:∀ts,Shr (part ts) ts)(s:ByteArray)(hs:s≠⟨#[]⟩)(m:Nat)(hn:∀ts,ts.length<m→NoF (part ts)):∀n l ts,ts.length≤m→ts.length<n→NoF (listL part s n l ts)
 | 0,_,_,_,h=>absurd h (Nat.not_lt_zero _)
 | n+1,_,ts,hm,h=>by
  unfold listL
  split
  ·rename_i he
   have h1:=tail_lt (Or.inl (by rw[he];exact hs))
   exact(hn ts.tail (by omega)).then fun e2 t2 h2=>listL_nof part hp s hs m hn n _ t2 (by have:=hp _ _ _ h2;omega) (by have:=hp _ _ _ h2;omega)
  ·exact NoF.ok
theorem listT_shr{α:Type}(part:List Tok→PR α)(hp:∀ts,Shr (part ts) ts)(s:ByteArray)(n:Nat)(ts:List Tok):Shr (listT part s n ts) ts:=(hp ts).then fun _ t2=>listL_shr part hp s n _ t2
theorem listT_nof{α:Type}(part:List Tok→PR α)(hp:∀ts,Shr (part ts) ts)(s:ByteArray)(hs:s≠⟨#[]⟩)(n:Nat)(ts:List Tok)(hn:∀t',t'.length≤ts.length→NoF (part t'))(h:ts.length<n):NoF (listT part s n ts) :=
 (hn ts (Nat.le_refl _)).then fun _ t2 h2=>listL_nof part hp s hs ts.length (fun t' ht=>hn t' (Nat.le_of_lt ht)) n _ t2 (hp _ _ _ h2) (by have:=hp _ _ _ h2;omega)
theorem pp_shr:∀n r,r≤10→∀op ts,Shr (pp n r op ts) ts
 | 0,_,_,_,_=>Shr.error
 | n+1,r,hr,op,ts=>by
  have ih:=pp_shr n
  match r,hr with
  | 0,_ =>
   unfold pp
   rw[if_pos (show((0:Nat)=0) from rfl)]
   split
   ·exact open_shr (((ih 0 (by decide)) _ _).then fun a t1=>(want_shr _ _).then fun _ t2=>((ih 0 (by decide)) _ _).then fun b t3=>(want_shr _ _).then fun _ t4=>((ih 0 (by decide)) _ _).then fun c t5=>Shr.ok (Nat.le_refl _))
   ·exact(ih 1 (by decide)) _ _
  | 1,_ =>
   unfold pp
   rw[if_neg (show ¬((1:Nat)=0) by decide),if_pos (show((1:Nat)=1) from rfl)]
   refine((ih 2 (by decide)) _ _).then fun a t1=>?_
   split
   ·exact Shr.ok (Nat.le_refl _)
   ·exact open_shr (((ih 1 (by decide)) _ _).then fun b t2=>Shr.ok (Nat.le_refl _))
  | 2,_ =>
   unfold pp
   rw[if_neg (show ¬((2:Nat)=0) by decide),if_neg (show ¬((2:Nat)=1) by decide),if_pos (show((2:Nat)=2) from rfl)]
   exact((ih 3 (by decide)) _ _).then fun a t1=>chain_shr _ (fun ts=>(ih 3 (by decide)) _ ts) _ _ _ _
  | 3,_ =>
   unfold pp
   rw[if_neg (show ¬((3:Nat)=0) by decide),if_neg (show ¬((3:Nat)=1) by decide),if_neg (show ¬((3:Nat)=2) by decide),if_pos (show((3:Nat)=3) from rfl)]
   exact((ih 4 (by decide)) _ _).then fun a t1=>chain_shr _ (fun ts=>(ih 4 (by decide)) _ ts) _ _ _ _
  | 4,_ =>
   unfold pp
   rw[if_neg (show ¬((4:Nat)=0) by decide),if_neg (show ¬((4:Nat)=1) by decide),if_neg (show ¬((4:Nat)=2) by decide),if_neg (show ¬((4:Nat)=3) by decide),if_pos (show((4:Nat)=4) from rfl)]
   split
   ·exact open_shr (((ih 4 (by decide)) _ _).then fun a t1=>Shr.ok (Nat.le_refl _))
   ·exact(ih 5 (by decide)) _ _
  | 5,_ =>
   unfold pp
   rw[if_neg (show ¬((5:Nat)=0) by decide),if_neg (show ¬((5:Nat)=1) by decide),if_neg (show ¬((5:Nat)=2) by decide),if_neg (show ¬((5:Nat)=3) by decide),if_neg (show ¬((5:Nat)=4) by decide),if_pos (show((5:Nat)=5) from rfl)]
   refine((ih 6 (by decide)) _ _).then fun a t1=>?_
   split
   ·exact Shr.ok (Nat.le_refl _)
   ·exact(((ih 6 (by decide)) _ _).then fun b t2=>Shr.ok (Nat.le_refl _)).trans (tail_le _)
  | 6,_ =>
   unfold pp
   rw[if_neg (show ¬((6:Nat)=0) by decide),if_neg (show ¬((6:Nat)=1) by decide),if_neg (show ¬((6:Nat)=2) by decide),if_neg (show ¬((6:Nat)=3) by decide),if_neg (show ¬((6:Nat)=4) by decide),if_neg (show ¬((6:Nat)=5) by decide),if_pos (show((6:Nat)=6) from rfl)]
   exact((ih 7 (by decide)) _ _).then fun a t1=>chain_shr _ (fun ts=>(ih 7 (by decide)) _ ts) _ _ _ _
  | 7,_ =>
   unfold pp
   rw[if_neg (show ¬((7:Nat)=0) by decide),if_neg (show ¬((7:Nat)=1) by decide),if_neg (show ¬((7:Nat)=2) by decide),if_neg (show ¬((7:Nat)=3) by decide),if_neg (show ¬((7:Nat)=4) by decide),if_neg (show ¬((7:Nat)=5) by decide),if_neg (show ¬((7:Nat)=6) by decide),if_pos (show((7:Nat)=7) from rfl)]
   exact((ih 8 (by decide)) _ _).then fun a t1=>chain_shr _ (fun ts=>(ih 8 (by decide)) _ ts) _ _ _ _
  | 8,_ =>
   unfold pp
   rw[if_neg (show ¬((8:Nat)=0) by decide),if_neg (show ¬((8:Nat)=1) by decide),if_neg (show ¬((8:Nat)=2) by decide),if_neg (show ¬((8:Nat)=3) by decide),if_neg (show ¬((8:Nat)=4) by decide),if_neg (show ¬((8:Nat)=5) by decide),if_neg (show ¬((8:Nat)=6) by decide),if_neg (show ¬((8:Nat)=7) by decide),if_pos (show((8:Nat)=8) from rfl)]
   split
   ·exact open_shr (((ih 8 (by decide)) _ _).then fun a t1=>Shr.ok (Nat.le_refl _))
   ·split
    ·exact open_shr (((ih 8 (by decide)) _ _).then fun a t1=>Shr.ok (Nat.le_refl _))
    ·exact(ih 9 (by decide)) _ _
  | 9,_ =>
   unfold pp
   rw[if_neg (show ¬((9:Nat)=0) by decide),if_neg (show ¬((9:Nat)=1) by decide),if_neg (show ¬((9:Nat)=2) by decide),if_neg (show ¬((9:Nat)=3) by decide),if_neg (show ¬((9:Nat)=4) by decide),if_neg (show ¬((9:Nat)=5) by decide),if_neg (show ¬((9:Nat)=6) by decide),if_neg (show ¬((9:Nat)=7) by decide),if_neg (show ¬((9:Nat)=8) by decide),if_pos (show((9:Nat)=9) from rfl)]
   exact((ih 10 (by decide)) _ _).then fun a t1=>post_shr _ _ _
  | 10,_ =>
   unfold pp
   rw[if_neg (show ¬((10:Nat)=0) by decide),if_neg (show ¬((10:Nat)=1) by decide),if_neg (show ¬((10:Nat)=2) by decide),if_neg (show ¬((10:Nat)=3) by decide),if_neg (show ¬((10:Nat)=4) by decide),if_neg (show ¬((10:Nat)=5) by decide),if_neg (show ¬((10:Nat)=6) by decide),if_neg (show ¬((10:Nat)=7) by decide),if_neg (show ¬((10:Nat)=8) by decide),if_neg (show ¬((10:Nat)=9) by decide)]
   split
   ·exact Shr.ok (tail_le _)
   ·split
    ·split
     ·exact(open_shr (((listT_shr _ (fun ts=>(ih 0 (by decide)) _ ts) _ _ _)).then fun a t1=>(want_shr _ _).then fun _ t2=>Shr.ok (Nat.le_refl _))).trans (tail_le _)
     ·exact Shr.ok (tail_le _)
    ·split
     ·exact Shr.ok (tail_le _)
     ·split
      ·exact Shr.ok (tail_le _)
      ·split
       ·exact open_shr (((ih 0 (by decide)) _ _).then fun a t1=>(want_shr _ _).then fun _ t2=>Shr.ok (Nat.le_refl _))
       ·exact Shr.error
theorem pp_nof:∀n r,r≤10→∀op ts,13*ts.length+13≤n+r→NoF (pp n r op ts)
 | 0,r,hr,_,ts,h=>absurd h (by omega)
 | n+1,r,hr,op,ts,hn=>by
  have ih:=pp_nof n
  have sh:=pp_shr n
  match r,hr with
  | 0,_ =>
   unfold pp
   rw[if_pos (show((0:Nat)=0) from rfl)]
   split
   ·rename_i h
    have hl:=tail_lt (ts:=ts) (Or.inl (by rw[h];decide))
    exact open_nof (((ih 0 (by decide)) _ _ (by omega)).then fun a t1 h1=>(want_nof _ _).then fun _ t2 h2=>((ih 0 (by decide)) _ _ (by have:=(sh 0 (by decide)) _ _ _ _ h1;have:=want_shr _ _ _ _ h2;omega)).then fun b t3 h3=>(want_nof _ _).then fun _ t4 h4=>((ih 0 (by decide)) _ _ (by have:=(sh 0 (by decide)) _ _ _ _ h1;have:=want_shr _ _ _ _ h2;have:=(sh 0 (by decide)) _ _ _ _ h3;have:=want_shr _ _ _ _ h4;omega)).then fun c t5 _=>NoF.ok)
   ·exact(ih 1 (by decide)) _ _ (by omega)
  | 1,_ =>
   unfold pp
   rw[if_neg (show ¬((1:Nat)=0) by decide),if_pos (show((1:Nat)=1) from rfl)]
   refine((ih 2 (by decide)) _ _ (by omega)).then fun a t1 h1=>?_
   have hs:=(sh 2 (by decide)) _ _ _ _ h1
   split
   ·exact NoF.ok
   ·rename_i h
    have hl:=tail_lt (Or.inl (sgn_ne h))
    exact open_nof (((ih 1 (by decide)) _ _ (by omega)).then fun b t2 _=>NoF.ok)
  | 2,_ =>
   unfold pp
   rw[if_neg (show ¬((2:Nat)=0) by decide),if_neg (show ¬((2:Nat)=1) by decide),if_pos (show((2:Nat)=2) from rfl)]
   exact((ih 3 (by decide)) _ _ (by omega)).then fun a t1 h1=>chain_nof _ (fun ts=>(sh 3 (by decide)) _ ts) _ ts.length (fun t' ht=>(ih 3 (by decide)) _ _ (by omega)) _ _ _ ((sh 3 (by decide)) _ _ _ _ h1) (by have:=(sh 3 (by decide)) _ _ _ _ h1;omega)
  | 3,_ =>
   unfold pp
   rw[if_neg (show ¬((3:Nat)=0) by decide),if_neg (show ¬((3:Nat)=1) by decide),if_neg (show ¬((3:Nat)=2) by decide),if_pos (show((3:Nat)=3) from rfl)]
   exact((ih 4 (by decide)) _ _ (by omega)).then fun a t1 h1=>chain_nof _ (fun ts=>(sh 4 (by decide)) _ ts) _ ts.length (fun t' ht=>(ih 4 (by decide)) _ _ (by omega)) _ _ _ ((sh 4 (by decide)) _ _ _ _ h1) (by have:=(sh 4 (by decide)) _ _ _ _ h1;omega)
  | 4,_ =>
   unfold pp
   rw[if_neg (show ¬((4:Nat)=0) by decide),if_neg (show ¬((4:Nat)=1) by decide),if_neg (show ¬((4:Nat)=2) by decide),if_neg (show ¬((4:Nat)=3) by decide),if_pos (show((4:Nat)=4) from rfl)]
   split
   ·rename_i h
    have hl:=tail_lt (ts:=ts) (Or.inl (by rw[h];decide))
    exact open_nof (((ih 4 (by decide)) _ _ (by omega)).then fun a t1 _=>NoF.ok)
   ·exact(ih 5 (by decide)) _ _ (by omega)
  | 5,_ =>
   unfold pp
   rw[if_neg (show ¬((5:Nat)=0) by decide),if_neg (show ¬((5:Nat)=1) by decide),if_neg (show ¬((5:Nat)=2) by decide),if_neg (show ¬((5:Nat)=3) by decide),if_neg (show ¬((5:Nat)=4) by decide),if_pos (show((5:Nat)=5) from rfl)]
   refine((ih 6 (by decide)) _ _ (by omega)).then fun a t1 h1=>?_
   have hs:=(sh 6 (by decide)) _ _ _ _ h1
   split
   ·exact NoF.ok
   ·rename_i h
    have hl:=tail_lt (Or.inl (sgn_ne h))
    exact((ih 6 (by decide)) _ _ (by omega)).then fun b t2 _=>NoF.ok
  | 6,_ =>
   unfold pp
   rw[if_neg (show ¬((6:Nat)=0) by decide),if_neg (show ¬((6:Nat)=1) by decide),if_neg (show ¬((6:Nat)=2) by decide),if_neg (show ¬((6:Nat)=3) by decide),if_neg (show ¬((6:Nat)=4) by decide),if_neg (show ¬((6:Nat)=5) by decide),if_pos (show((6:Nat)=6) from rfl)]
   exact((ih 7 (by decide)) _ _ (by omega)).then fun a t1 h1=>chain_nof _ (fun ts=>(sh 7 (by decide)) _ ts) _ ts.length (fun t' ht=>(ih 7 (by decide)) _ _ (by omega)) _ _ _ ((sh 7 (by decide)) _ _ _ _ h1) (by have:=(sh 7 (by decide)) _ _ _ _ h1;omega)
  | 7,_ =>
   unfold pp
   rw[if_neg (show ¬((7:Nat)=0) by decide),if_neg (show ¬((7:Nat)=1) by decide),if_neg (show ¬((7:Nat)=2) by decide),if_neg (show ¬((7:Nat)=3) by decide),if_neg (show ¬((7:Nat)=4) by decide),if_neg (show ¬((7:Nat)=5) by decide),if_neg (show ¬((7:Nat)=6) by decide),if_pos (show((7:Nat)=7) from rfl)]
   exact((ih 8 (by decide)) _ _ (by omega)).then fun a t1 h1=>chain_nof _ (fun ts=>(sh 8 (by decide)) _ ts) _ ts.length (fun t' ht=>(ih 8 (by decide)) _ _ (by omega)) _ _ _ ((sh 8 (by decide)) _ _ _ _ h1) (by have:=(sh 8 (by decide)) _ _ _ _ h1;omega)
  | 8,_ =>
   unfold pp
   rw[if_neg (show ¬((8:Nat)=0) by decide),if_neg (show ¬((8:Nat)=1) by decide),if_neg (show ¬((8:Nat)=2) by decide),if_neg (show ¬((8:Nat)=3) by decide),if_neg (show ¬((8:Nat)=4) by decide),if_neg (show ¬((8:Nat)=5) by decide),if_neg (show ¬((8:Nat)=6) by decide),if_neg (show ¬((8:Nat)=7) by decide),if_pos (show((8:Nat)=8) from rfl)]
   split
   ·rename_i h
    have hl:=tail_lt (ts:=ts) (Or.inl (by rw[h];decide))
    exact open_nof (((ih 8 (by decide)) _ _ (by omega)).then fun a t1 _=>NoF.ok)
   ·split
    ·rename_i h
     have hl:=tail_lt (ts:=ts) (Or.inl (by rw[h];decide))
     exact open_nof (((ih 8 (by decide)) _ _ (by omega)).then fun a t1 _=>NoF.ok)
    ·exact(ih 9 (by decide)) _ _ (by omega)
  | 9,_ =>
   unfold pp
   rw[if_neg (show ¬((9:Nat)=0) by decide),if_neg (show ¬((9:Nat)=1) by decide),if_neg (show ¬((9:Nat)=2) by decide),if_neg (show ¬((9:Nat)=3) by decide),if_neg (show ¬((9:Nat)=4) by decide),if_neg (show ¬((9:Nat)=5) by decide),if_neg (show ¬((9:Nat)=6) by decide),if_neg (show ¬((9:Nat)=7) by decide),if_neg (show ¬((9:Nat)=8) by decide),if_pos (show((9:Nat)=9) from rfl)]
   exact((ih 10 (by decide)) _ _ (by omega)).then fun a t1 h1=>post_nof _ _ _ (by have:=(sh 10 (by decide)) _ _ _ _ h1;omega)
  | 10,_ =>
   unfold pp
   rw[if_neg (show ¬((10:Nat)=0) by decide),if_neg (show ¬((10:Nat)=1) by decide),if_neg (show ¬((10:Nat)=2) by decide),if_neg (show ¬((10:Nat)=3) by decide),if_neg (show ¬((10:Nat)=4) by decide),if_neg (show ¬((10:Nat)=5) by decide),if_neg (show ¬((10:Nat)=6) by decide),if_neg (show ¬((10:Nat)=7) by decide),if_neg (show ¬((10:Nat)=8) by decide),if_neg (show ¬((10:Nat)=9) by decide)]
   split
   ·exact NoF.ok
   ·split
    ·rename_i h
     have hl:=tail_lt (ts:=ts) (Or.inr (by rw[h];decide))
     split
     ·rename_i h
      have hl2:=tail_lt (Or.inl (by rw[h];decide))
      exact open_nof ((listT_nof _ (fun ts=>(sh 0 (by decide)) _ ts) _ (by decide) _ _ (fun t' ht=>(ih 0 (by decide)) _ _ (by omega)) (by omega)).then fun a t1 _=>(want_nof _ _).then fun _ t2 _=>NoF.ok)
     ·exact NoF.ok
    ·split
     ·exact NoF.ok
     ·split
      ·exact NoF.ok
      ·split
       ·rename_i h
        have hl:=tail_lt (ts:=ts) (Or.inl (by rw[h];decide))
        exact open_nof (((ih 0 (by decide)) _ _ (by omega)).then fun a t1 _=>(want_nof _ _).then fun _ t2 _=>NoF.ok)
       ·exact NoF.error (by decide)
open Ex.size Ex.depth Ex.lies Ex.bulk Ex.good Ex.bare
def paramT(ts:List Tok):PR Pm:=(nameT ts).then fun s t1=>(wantT ⟨#[58]⟩ t1).then fun _ t2 =>
 if (hd t2).text=⟨#[98,111,111,108]⟩ then .ok (⟨s,2,(hd ts).place,false,0,0,0⟩,t2.tail)
 else (wantT ⟨#[105,110,116]⟩ t2).then fun _ t3=>.ok (⟨s,1,(hd ts).place,false,0,0,0⟩,t3)
def inT(ts:List Tok):PR Pm:=(paramT ts).then fun p t1 =>
 if (hd t1).text=⟨#[114,97,116,101]⟩ then (wantT ⟨#[40]⟩ t1.tail).then fun _ t2=>(numT 1 t2).then fun a t3=>(wantT ⟨#[44]⟩ t3).then fun _ t4=>(numT 0 t4).then fun b t5=>(wantT ⟨#[41]⟩ t5).then fun _ t6=>.ok (⟨p.nm,p.ty,p.pl,true,a,b,p.du⟩,t6)
 else .ok (p,t1)
def outT(ts:List Tok):PR Pm:=(paramT ts).then fun p t1 =>
 if (hd t1).text=⟨#[100,117,101]⟩ then (numT 1 t1.tail).then fun a t2=>.ok (⟨p.nm,p.ty,p.pl,p.rt,p.pd,p.st,a⟩,t2)
 else .ok (p,t1)
def paramsT(one:List Tok→PR Pm)(n:Nat)(ts:List Tok):PR (List Pm):=(wantT ⟨#[40]⟩ ts).then fun _ t1 =>
 if (hd t1).text=⟨#[41]⟩ then .ok ([],t1.tail)
 else (listT one ⟨#[59]⟩ n t1).then fun l t2=>(wantT ⟨#[41]⟩ t2).then fun _ t3=>.ok (l,t3)
def varsL:Nat→List Pm→List Tok→PR (List Pm)
 | 0,_,_=>.error (0,0)
 | n+1,l,ts=>if l≠[]∧(hd ts).text=⟨#[108,101,116]⟩ then .ok (l,ts) else (paramT ts).then fun p t1=>(wantT ⟨#[59]⟩ t1).then fun _ t2=>varsL n (l++[p]) t2
def varsT(n:Nat)(ts:List Tok):PR (List Pm):=if (hd ts).text=⟨#[118,97,114]⟩ then varsL n [] ts.tail else .ok ([],ts)
def eqR(n op:Nat)(pl:Int)(ns:List ByteArray)(ts:List Tok):PR Eqn:=(wantT ⟨#[61]⟩ ts).then fun _ t1=>(pp n 0 op t1).then fun e t2=>(wantT ⟨#[59]⟩ t2).then fun _ t3=>.ok (⟨none,0,ns,pl,e⟩,t3)
def eqT(n op:Nat)(ts:List Tok):PR Eqn :=
 if (hd ts).text=⟨#[40]⟩ then (listT nameT ⟨#[44]⟩ n ts.tail).then fun ns t1=>(wantT ⟨#[41]⟩ t1).then fun _ t2=>eqR n op (hd ts).place ns t2
 else (nameT ts).then fun s t1=>eqR n op (hd ts).place [s] t1
def eqsL(n op:Nat):Nat→List Eqn→List Tok→PR (List Eqn)
 | 0,_,_=>.error (0,0)
 | k+1,l,ts=>if (hd ts).text=⟨#[116,101,108]⟩ then .ok (l,ts.tail) else (eqT n op ts).then fun q t1=>eqsL n op k (l++[q]) t1
def isFlow(t:Tok):Bool:=decide (t.text=⟨#[102,108,111,119]⟩)
def inOf(fl:Bool)(ts:List Tok):PR Pm:=if fl then inT ts else paramT ts
def outOf'(fl:Bool)(ts:List Tok):PR Pm:=if fl then outT ts else paramT ts
def nodeT(n op:Nat)(ts:List Tok):PR Nd:=(nameT ts.tail).then fun s t1 =>
 (paramsT (inOf (isFlow (hd ts))) n t1).then fun i t2=>(wantT ⟨#[114,101,116,117,114,110,115]⟩ t2).then fun _ t3 =>
 (paramsT (outOf' (isFlow (hd ts))) n t3).then fun o t4=>(varsT n t4).then fun v t5=>(wantT ⟨#[108,101,116]⟩ t5).then fun _ t6 =>
 (eqsL n op n [] t6).then fun q t7=>.ok (⟨isFlow (hd ts),s,(hd ts).place,none,0,i,none,0,o,none,0,v,none,0,q⟩,t7)
def isNode(t:Tok):Prop:=t.text=⟨#[110,111,100,101]⟩∨t.text=⟨#[102,108,111,119]⟩
instance (t:Tok):Decidable (isNode t):=inferInstanceAs (Decidable (_∨_))
def nodesL(n op:Nat):Nat→List Nd→List Tok→PR (List Nd)
 | 0,_,_=>.error (0,0)
 | k+1,l,ts=>if isNode (hd ts) then (nodeT n op ts).then fun q t1=>nodesL n op k (l++[q]) t1 else .ok (l,ts)
theorem param_shr(ts:List Tok):Shr (paramT ts) ts:=by
 unfold paramT
 refine(name_shr ts).then fun s t1=>(want_shr _ t1).then fun _ t2=>?_
 split
 ·exact Shr.ok (tail_le _)
 ·exact(want_shr _ t2).then fun _ t3=>Shr.ok (Nat.le_refl _)
theorem param_nof(ts:List Tok):NoF (paramT ts):=by
 unfold paramT
 refine(name_nof ts).then fun s t1 _=>(want_nof _ t1).then fun _ t2 _=>?_
 split
 ·exact NoF.ok
 ·exact(want_nof _ t2).then fun _ t3 _=>NoF.ok
theorem in_shr(ts:List Tok):Shr (inT ts) ts:=by
 unfold inT
 refine(param_shr ts).then fun p t1=>?_
 split
 ·exact((want_shr _ t1.tail).then fun _ t2=>(num_shr _ t2).then fun _ t3=>(want_shr _ t3).then fun _ t4=>(num_shr _ t4).then fun _ t5=>(want_shr _ t5).then fun _ t6=>Shr.ok (Nat.le_refl _)).trans (tail_le _)
 ·exact Shr.ok (Nat.le_refl _)
theorem in_nof(ts:List Tok):NoF (inT ts):=by
 unfold inT
 refine(param_nof ts).then fun p t1 _=>?_
 split
 ·exact(want_nof _ t1.tail).then fun _ t2 _=>(num_nof _ t2).then fun _ t3 _=>(want_nof _ t3).then fun _ t4 _=>(num_nof _ t4).then fun _ t5 _=>(want_nof _ t5).then fun _ t6 _=>NoF.ok
 ·exact NoF.ok
theorem out_shr(ts:List Tok):Shr (outT ts) ts:=by
 unfold outT
 refine(param_shr ts).then fun p t1=>?_
 split
 ·exact((num_shr _ t1.tail).then fun _ t3=>Shr.ok (Nat.le_refl _)).trans (tail_le _)
 ·exact Shr.ok (Nat.le_refl _)
theorem out_nof(ts:List Tok):NoF (outT ts):=by
 unfold outT
 refine(param_nof ts).then fun p t1 _=>?_
 split
 ·exact(num_nof _ t1.tail).then fun _ t3 _=>NoF.ok
 ·exact NoF.ok
theorem inOf_shr(fl:Bool)(ts:List Tok):Shr (inOf fl ts) ts:=by
 unfold inOf
 split
 ·exact in_shr ts
 ·exact param_shr ts
theorem inOf_nof(fl:Bool)(ts:List Tok):NoF (inOf fl ts):=by
 unfold inOf
 split
 ·exact in_nof ts
 ·exact param_nof ts
theorem outOf_shr(fl:Bool)(ts:List Tok):Shr (outOf' fl ts) ts:=by
 unfold outOf'
 split
 ·exact out_shr ts
 ·exact param_shr ts
theorem outOf_nof(fl:Bool)(ts:List Tok):NoF (outOf' fl ts):=by
 unfold outOf'
 split
 ·exact out_nof ts
 ·exact param_nof ts
theorem params_shr(one:List Tok→PR Pm)(h:∀ts,Shr (one ts) ts)(n:Nat)(ts:List Tok):Shr (paramsT one n ts) ts:=by
 unfold paramsT
 refine(want_shr _ ts).then fun _ t1=>?_
 split
 ·exact Shr.ok (tail_le _)
 ·exact(listT_shr one h _ n t1).then fun l t2=>(want_shr _ t2).then fun _ t3=>Shr.ok (Nat.le_refl _)
theorem params_nof(one:List Tok→PR Pm)(h:∀ts,Shr (one ts) ts)(h0:∀ts,NoF (one ts))(n:Nat)(ts:List Tok)(hn:ts.length<n):NoF (paramsT one n ts):=by
 unfold paramsT
 refine(want_nof _ ts).then fun _ t1 h1=>?_
 split
 ·exact NoF.ok
 ·exact(listT_nof one h _ (by decide) n t1 (fun t' _=>h0 t') (by have:=want_shr _ _ _ _ h1;omega)).then fun l t2 _=>(want_nof _ t2).then fun _ t3 _=>NoF.ok
theorem wantT_lt{s:ByteArray}(hs:s≠⟨#[]⟩){ts t2:List Tok}{u:Unit}(h:wantT s ts=.ok (u,t2)):t2.length<ts.length:=by
 unfold wantT at h
 split at h
 ·rename_i he
  simp only[Except.ok.injEq,Prod.mk.injEq] at h
  rw[←h.2]
  exact tail_lt (Or.inl (by rw[he];exact hs))
 ·cases h
theorem vars_shr:∀n l ts,Shr (varsL n l ts) ts
 | 0,_,_=>Shr.error
 | n+1,l,ts=>by
  unfold varsL
  split
  ·exact Shr.ok (Nat.le_refl _)
  ·exact(param_shr ts).then fun p t1=>(want_shr _ t1).then fun _ t2=>vars_shr n _ t2
theorem vars_nof:∀n l ts,ts.length<n→NoF (varsL n l ts)
 | 0,_,_,h=>absurd h (Nat.not_lt_zero _)
 | n+1,l,ts,h=>by
  unfold varsL
  split
  ·exact NoF.ok
  ·exact(param_nof ts).then fun p t1 h1=>(want_nof _ t1).then fun _ t2 h2=>vars_nof n _ t2 (by have:=param_shr _ _ _ h1;have:=wantT_lt (by decide) h2;omega)
theorem varsT_shr(n:Nat)(ts:List Tok):Shr (varsT n ts) ts:=by
 unfold varsT
 split
 ·exact(vars_shr n [] ts.tail).trans (tail_le _)
 ·exact Shr.ok (Nat.le_refl _)
theorem varsT_nof(n:Nat)(ts:List Tok)(h:ts.length<n):NoF (varsT n ts):=by
 unfold varsT
 split
 ·exact vars_nof n [] ts.tail (Nat.lt_of_le_of_lt (tail_le _) h)
 ·exact NoF.ok
theorem eqR_shr(n op:Nat)(pl:Int)(ns:List ByteArray)(ts:List Tok):Shr (eqR n op pl ns ts) ts:=by
 unfold eqR
 exact(want_shr _ ts).then fun _ t1=>(pp_shr n 0 (by decide) op t1).then fun e t2=>(want_shr _ t2).then fun _ t3=>Shr.ok (Nat.le_refl _)
theorem eqR_nof(n op:Nat)(pl:Int)(ns:List ByteArray)(ts:List Tok)(h:13*ts.length+13≤n):NoF (eqR n op pl ns ts):=by
 unfold eqR
 exact(want_nof _ ts).then fun _ t1 h1=>(pp_nof n 0 (by decide) op t1 (by have:=want_shr _ _ _ _ h1;omega)).then fun e t2 _=>(want_nof _ t2).then fun _ t3 _=>NoF.ok
theorem eqT_shr(n op:Nat)(ts:List Tok):Shr (eqT n op ts) ts:=by
 unfold eqT
 split
 ·exact((listT_shr nameT name_shr _ n ts.tail).then fun ns t1=>(want_shr _ t1).then fun _ t2=>eqR_shr n op _ ns t2).trans (tail_le _)
 ·exact(name_shr ts).then fun s t1=>eqR_shr n op _ [s] t1
theorem eqT_nof(n op:Nat)(ts:List Tok)(h:13*ts.length+13≤n):NoF (eqT n op ts):=by
 unfold eqT
 split
 ·have hl:=tail_le ts
  exact(listT_nof nameT name_shr _ (by decide) n ts.tail (fun t' _=>name_nof t') (by omega)).then fun ns t1 h1=>(want_nof _ t1).then fun _ t2 h2=>eqR_nof n op _ ns t2 (by have:=listT_shr nameT name_shr _ n ts.tail _ _ h1;have:=want_shr _ _ _ _ h2;omega)
 ·exact(name_nof ts).then fun s t1 h1=>eqR_nof n op _ [s] t1 (by have:=name_shr _ _ _ h1;omega)
theorem then_lt{α β:Type}{p:PR α}{f:α→List Tok→PR β}{ts t3:List Tok}{b:β}(h:Shr p ts)(hf:∀a t2 b t3,p=.ok (a,t2)→f a t2=.ok (b,t3)→t3.length<t2.length)(e:p.then f=.ok (b,t3)):t3.length<ts.length:=by
 cases p with
 | error k=>cases e
 | ok q=>exact Nat.lt_of_lt_of_le (hf q.1 q.2 b t3 rfl e) (h q.1 q.2 rfl)
theorem eqR_lt{n op:Nat}{pl:Int}{ns:List ByteArray}{ts t2:List Tok}{q:Eqn}(h:eqR n op pl ns ts=.ok (q,t2)):t2.length<ts.length:=by
 unfold eqR at h
 cases hw:wantT ⟨#[61]⟩ ts with
 | error k=>rw[hw] at h;cases h
 | ok r =>
  rw[hw] at h
  have h1:=wantT_lt (by decide) hw
  have h2:Shr ((pp n 0 op r.2).then fun e t2=>(wantT ⟨#[59]⟩ t2).then fun _ t3=>.ok ((⟨none,0,ns,pl,e⟩:Eqn),t3)) r.2:=(pp_shr n 0 (by decide) op _).then fun e t2=>(want_shr _ t2).then fun _ t3=>Shr.ok (Nat.le_refl _)
  exact Nat.lt_of_le_of_lt (h2 q t2 h) h1
theorem eqT_lt{n op:Nat}{ts t2:List Tok}{q:Eqn}(h:eqT n op ts=.ok (q,t2)):t2.length<ts.length:=by
 unfold eqT at h
 split at h
 ·refine Nat.lt_of_lt_of_le (then_lt (ts:=ts.tail) (listT_shr nameT name_shr _ n ts.tail) (fun a t2 b t3 _ e=>then_lt (want_shr _ t2) (fun _ t4 b t5 _ e=>eqR_lt e) e) h) (tail_le _)
 ·exact then_lt (name_shr ts) (fun s t1 b t3 _ e=>eqR_lt e) h
theorem eqs_shr(n op:Nat):∀k l ts,Shr (eqsL n op k l ts) ts
 | 0,_,_=>Shr.error
 | k+1,l,ts=>by
  unfold eqsL
  split
  ·exact Shr.ok (tail_le _)
  ·exact(eqT_shr n op ts).then fun q t1=>eqs_shr n op k _ t1
theorem eqs_nof(n op:Nat):∀k l ts,13*ts.length+13≤n→ts.length<k→NoF (eqsL n op k l ts)
 | 0,_,_,_,h=>absurd h (Nat.not_lt_zero _)
 | k+1,l,ts,hn,h=>by
  unfold eqsL
  split
  ·exact NoF.ok
  ·exact(eqT_nof n op ts hn).then fun q t1 h1=>eqs_nof n op k _ t1 (by have:=eqT_lt h1;omega) (by have:=eqT_lt h1;omega)
theorem node_nof(n op:Nat)(ts:List Tok)(h:13*ts.length+13≤n):NoF (nodeT n op ts):=by
 unfold nodeT
 have h0:=tail_le ts
 refine(name_nof ts.tail).then fun s t1 h1=>?_
 have l1:=name_shr _ _ _ h1
 refine(params_nof _ (inOf_shr _) (inOf_nof _) n t1 (by omega)).then fun i t2 h2=>?_
 have l2:=params_shr _ (inOf_shr _) n t1 _ _ h2
 refine(want_nof _ t2).then fun _ t3 h3=>?_
 have l3:=want_shr _ _ _ _ h3
 refine(params_nof _ (outOf_shr _) (outOf_nof _) n t3 (by omega)).then fun o t4 h4=>?_
 have l4:=params_shr _ (outOf_shr _) n t3 _ _ h4
 refine(varsT_nof n t4 (by omega)).then fun v t5 h5=>?_
 have l5:=varsT_shr n t4 _ _ h5
 refine(want_nof _ t5).then fun _ t6 h6=>?_
 have l6:=want_shr _ _ _ _ h6
 exact(eqs_nof n op n [] t6 (by omega) (by omega)).then fun q t7 _=>NoF.ok
theorem nodeT_lt{n op:Nat}{ts t2:List Tok}{q:Nd}(hne:isNode (hd ts))(h:nodeT n op ts=.ok (q,t2)):t2.length<ts.length:=by
 have h1:ts.tail.length<ts.length:=tail_lt (Or.inl (by rcases hne with h|h<;>rw[h]<;>decide))
 unfold nodeT at h
 have h2:Shr _ ts.tail:=(name_shr ts.tail).then fun s t1=>(params_shr (inOf (isFlow (hd ts))) (inOf_shr _) n t1).then fun i t2=>(want_shr ⟨#[114,101,116,117,114,110,115]⟩ t2).then fun _ t3=>(params_shr (outOf' (isFlow (hd ts))) (outOf_shr _) n t3).then fun o t4=>(varsT_shr n t4).then fun v t5=>(want_shr ⟨#[108,101,116]⟩ t5).then fun _ t6=>(eqs_shr n op n [] t6).then fun q t7=>Shr.ok (a:=(⟨isFlow (hd ts),s,(hd ts).place,none,0,i,none,0,o,none,0,v,none,0,q⟩:Nd)) (Nat.le_refl t7.length)
 exact Nat.lt_of_le_of_lt (h2 q t2 h) h1
theorem nodes_nof(n op:Nat):∀k l ts,13*ts.length+13≤n→ts.length<k→NoF (nodesL n op k l ts)
 | 0,_,_,_,h=>absurd h (Nat.not_lt_zero _)
 | k+1,l,ts,hn,h=>by
  unfold nodesL
  split
  ·rename_i hi
   exact(node_nof n op ts hn).then fun q t1 h1=>nodes_nof n op k _ t1 (by have:=nodeT_lt hi h1;omega) (by have:=nodeT_lt hi h1;omega)
  ·exact NoF.ok
theorem wt_tail(ts:List Tok):wt ts.tail≤wt ts:=by
 cases ts with
 | nil=>exact Nat.le_refl _
 | cons t r=>simp only[List.tail_cons,wt];omega
theorem wt_took{ts:List Tok}(h:(hd ts).text≠⟨#[]⟩∨(hd ts).kind≠0):wt ts.tail+1+(hd ts).text.size≤wt ts:=by
 cases ts with
 | nil=>rcases h with h|h<;>exact absurd rfl h
 | cons t r=>simp only[List.tail_cons,wt,hd,List.headD_cons];omega
def Wt{α:Type}(f:α→Nat)(m:Nat)(p:PR α)(ts:List Tok):Prop:=∀a t2,p=.ok (a,t2)→f a+wt t2≤m+wt ts
theorem Wt.ok{α:Type}{f:α→Nat}{m:Nat}{a:α}{t ts:List Tok}(h:f a+wt t≤m+wt ts):Wt f m (.ok (a,t):PR α) ts:=fun _ _ e=>by
 simp only[Except.ok.injEq,Prod.mk.injEq] at e
 rw[←e.1,←e.2];exact h
theorem Wt.error{α:Type}{f:α→Nat}{m:Nat}{k:Nat × Int}{ts:List Tok}:Wt f m (.error k:PR α) ts:=fun _ _ e=>by cases e
theorem Wt.then{α β:Type}{f:α→Nat}{g:β→Nat}{m n:Nat}{p:PR α}{q:α→List Tok→PR β}{ts:List Tok}(h:Wt f m p ts)(hq:∀a t2,f a+wt t2≤m+wt ts→Wt g (n+wt ts-wt t2) (q a t2) t2)(hn:∀a t2,f a+wt t2≤m+wt ts→wt t2≤n+wt ts):Wt g n (p.then q) ts:=fun b t3 e=>by
 cases p with
 | error k=>cases e
 | ok r =>
  have h1:=h r.1 r.2 rfl
  have h2:=hq r.1 r.2 h1 b t3 e
  have h3:=hn r.1 r.2 h1
  omega
abbrev Wl {α:Type}(p:PR α)(ts:List Tok):Prop:=Wt (fun _=>0) 0 p ts
theorem want_wl(s:ByteArray)(ts:List Tok):Wl (wantT s ts) ts:=by
 unfold wantT
 split
 ·exact Wt.ok (by have:=wt_tail ts;omega)
 ·exact Wt.error
theorem num_wl(l:Int)(ts:List Tok):Wl (numT l ts) ts:=by
 unfold numT
 split
 ·exact Wt.ok (by have:=wt_tail ts;omega)
 ·exact Wt.error
theorem name_wl(ts:List Tok):Wl (nameT ts) ts:=by
 unfold nameT
 split
 ·exact Wt.ok (by have:=wt_tail ts;omega)
 ·exact Wt.error
theorem Wl.then{α β:Type}{g:β→Nat}{n:Nat}{p:PR α}{q:α→List Tok→PR β}{ts:List Tok}(h:Wl p ts)(hq:∀a t2,wt t2≤wt ts→Wt g (n+wt ts-wt t2) (q a t2) t2):Wt g n (p.then q) ts :=
 Wt.then h (fun a t2 e=>hq a t2 (by omega)) fun a t2 e=>by omega
theorem Wt.lift{α:Type}{f:α→Nat}{m n:Nat}{p:PR α}{t ts:List Tok}(h:Wt f m p t)(hl:m+wt t≤n+wt ts):Wt f n p ts:=fun a t2 e=>by have:=h a t2 e;omega
theorem late_wl(ts:List Tok):Wl (lateT ts) ts:=by
 unfold lateT
 refine(num_wl 0 ts).then fun a t1 h1=>?_
 split
 ·refine Wt.lift (m:=0) (t:=t1.tail) ((num_wl 1 t1.tail).then fun b t2 h2=>Wt.ok (by omega)) ?_
  have:=wt_tail t1
  omega
 ·exact Wt.ok (by omega)
theorem open_wt{α:Type}{f:α→Nat}{n op:Nat}{ts ts':List Tok}{q:List Tok→PR α}(h:Wt f n (q ts.tail) ts'):Wt f n (openT op ts q) ts':=by
 unfold openT
 split
 ·exact Wt.error
 ·exact h
theorem sgn_took{rule k:Int}{ts:List Tok}(h:sgn rule ts=some k):wt ts.tail+1≤wt ts:=by
 have:=wt_took (ts:=ts) (Or.inl (sgn_ne h));omega
theorem mk2_bulk(k:Int)(a b:Ex):(mk2 k a b).bulk=1+a.bulk+b.bulk:=by
 simp only[mk2,Ex.bulk,bulks]
 have:(⟨#[]⟩:ByteArray).size=0:=rfl
 omega
theorem mk1_bulk(k pl:Int)(e:Ex)(it dn:Int):(mk1 k pl e it dn).bulk=1+e.bulk:=by
 simp only[mk1,Ex.bulk,bulks]
 have:(⟨#[]⟩:ByteArray).size=0:=rfl
 omega
theorem chain_wt(part:List Tok→PR Ex)(hp:∀ts,Wt Ex.bulk 0 (part ts) ts)(rule:Int):∀n e ts,Wt Ex.bulk e.bulk (chainL part rule n e ts) ts
 | 0,_,_=>Wt.error
 | n+1,e,ts=>by
  unfold chainL
  split
  ·exact Wt.ok (Nat.le_refl _)
  ·rename_i k hs
   have h1:=sgn_took hs
   refine Wt.lift (t:=ts.tail) (m:=e.bulk+1) (Wt.then (hp ts.tail) (fun e2 t2 h2=>?_) fun e2 t2 h2=>by omega) (by omega)
   refine Wt.lift (chain_wt part hp rule n (mk2 k e e2) t2) ?_
   rw[mk2_bulk]
   omega
theorem post_wt:∀n e ts,Wt Ex.bulk e.bulk (postL n e ts) ts
 | 0,_,_=>Wt.error
 | n+1,e,ts=>by
  unfold postL
  split
  ·exact Wt.ok (Nat.le_refl _)
  ·rename_i k hs
   have h1:=sgn_took hs
   split
   ·refine Wt.lift (t:=ts.tail) (m:=e.bulk+1) ((late_wl ts.tail).then fun x t2 h2=>?_) (by omega)
    refine Wt.lift (post_wt n _ t2) ?_
    rw[mk1_bulk]
    omega
   ·refine Wt.lift (t:=ts.tail) (m:=e.bulk+1) ((num_wl 1 ts.tail).then fun x t2 h2=>?_) (by omega)
    refine Wt.lift (post_wt n _ t2) ?_
    rw[mk1_bulk]
    omega
theorem listL_wt{α:Type}(f:List α→Nat)(g:α→Nat)(ha:∀l x,f (l++[x])=f l+g x)(part:List Tok→PR α)(hp:∀ts,Wt g 0 (part ts) ts)(s:ByteArray):∀n l ts,Wt f (f l) (listL part s n l ts) ts
 | 0,_,_=>Wt.error
 | n+1,l,ts=>by
  unfold listL
  split
  ·have:=wt_tail ts
   refine Wt.lift (t:=ts.tail) (m:=f l) (Wt.then (hp ts.tail) (fun x t2 h2=>?_) fun x t2 h2=>by omega) (by omega)
   refine Wt.lift (listL_wt f g ha part hp s n _ t2) ?_
   rw[ha]
   omega
  ·exact Wt.ok (Nat.le_refl _)
theorem listT_wt{α:Type}(f:List α→Nat)(g:α→Nat)(ha:∀l x,f (l++[x])=f l+g x)(h0:f []=0)(part:List Tok→PR α)(hp:∀ts,Wt g 0 (part ts) ts)(s:ByteArray)(n:Nat)(ts:List Tok):Wt f 0 (listT part s n ts) ts:=by
 unfold listT
 refine Wt.then (hp ts) (fun x t2 h2=>?_) fun x t2 h2=>by omega
 refine Wt.lift (listL_wt f g ha part hp s n [x] t2) ?_
 have:=ha [] x
 rw[List.nil_append] at this
 rw[this]
 omega
theorem bulks_app(a b:List Ex):bulks (a++b)=bulks a+bulks b:=by
 induction a with
 | nil=>simp[bulks]
 | cons e r ih=>simp only[List.cons_append,bulks,ih];omega
theorem bulks_more(l:List Ex)(x:Ex):bulks (l++[x])=bulks l+x.bulk:=by
 rw[bulks_app];simp[bulks]
theorem empty_size:(⟨#[]⟩:ByteArray).size=0:=rfl
theorem text_took{ts:List Tok}{t:ByteArray}(h:(hd ts).text=t)(hn:t≠⟨#[]⟩):wt ts.tail+1≤wt ts:=by
 have:=wt_took (ts:=ts) (Or.inl (by rw[h];exact hn));omega
theorem kind_took{ts:List Tok}{k:Int}(h:(hd ts).kind=k)(hn:k≠0):wt ts.tail+1+(hd ts).text.size≤wt ts:=wt_took (Or.inr (by rw[h];exact hn))
theorem pp_wt:∀n r op ts,Wt Ex.bulk 0 (pp n r op ts) ts
 | 0,_,_,_=>Wt.error
 | n+1,r,op,ts=>by
  have ih:=pp_wt n
  unfold pp
  by_cases h:r=0
  ·rw[if_pos h]
   split
   ·rename_i h
    have h1:=text_took h (by decide)
    refine open_wt ?_
    refine Wt.lift (t:=ts.tail) (m:=1) (Wt.then (ih 0 (op+1) ts.tail) (fun a t2 ha=>?_) fun a t2 ha=>by omega) (by omega)
    refine(want_wl _ t2).then fun _ t3 h3=>?_
    refine Wt.then (ih 0 (op+1) t3) (fun b t4 hb=>?_) fun b t4 hb=>by omega
    refine(want_wl _ t4).then fun _ t5 h5=>?_
    refine Wt.then (ih 0 (op+1) t5) (fun c t6 hc=>?_) fun c t6 hc=>by omega
    refine Wt.ok ?_
    simp only[Ex.bulk,bulks,empty_size]
    omega
   ·exact ih 1 op ts
  rw[if_neg h]
  clear h
  by_cases h:r=1
  ·rw[if_pos h]
   refine Wt.then (ih 2 op ts) (fun a t1 ha=>?_) fun a t1 ha=>by omega
   split
   ·exact Wt.ok (by omega)
   ·rename_i k hs
    have h1:=sgn_took hs
    refine open_wt ?_
    refine Wt.lift (t:=t1.tail) (m:=a.bulk+1) (Wt.then (ih 1 (op+1) t1.tail) (fun b t2 hb=>?_) fun b t2 hb=>by omega) (by omega)
    refine Wt.ok ?_
    rw[mk2_bulk]
    omega
  rw[if_neg h]
  clear h
  by_cases h:r=2
  ·rw[if_pos h]
   refine Wt.then (ih 3 op ts) (fun a t1 ha=>?_) fun a t1 ha=>by omega
   exact Wt.lift (chain_wt _ (ih 3 op) 1 n a t1) (by omega)
  rw[if_neg h]
  clear h
  by_cases h:r=3
  ·rw[if_pos h]
   refine Wt.then (ih 4 op ts) (fun a t1 ha=>?_) fun a t1 ha=>by omega
   exact Wt.lift (chain_wt _ (ih 4 op) 2 n a t1) (by omega)
  rw[if_neg h]
  clear h
  by_cases h:r=4
  ·rw[if_pos h]
   split
   ·rename_i h
    have h1:=text_took h (by decide)
    refine open_wt ?_
    refine Wt.lift (t:=ts.tail) (m:=1) (Wt.then (ih 4 (op+1) ts.tail) (fun a t2 ha=>?_) fun a t2 ha=>by omega) (by omega)
    refine Wt.ok ?_
    rw[mk1_bulk]
    omega
   ·exact ih 5 op ts
  rw[if_neg h]
  clear h
  by_cases h:r=5
  ·rw[if_pos h]
   refine Wt.then (ih 6 op ts) (fun a t1 ha=>?_) fun a t1 ha=>by omega
   split
   ·exact Wt.ok (by omega)
   ·rename_i k hs
    have h1:=sgn_took hs
    refine Wt.lift (t:=t1.tail) (m:=a.bulk+1) (Wt.then (ih 6 op t1.tail) (fun b t2 hb=>?_) fun b t2 hb=>by omega) (by omega)
    refine Wt.ok ?_
    rw[mk2_bulk]
    omega
  rw[if_neg h]
  clear h
  by_cases h:r=6
  ·rw[if_pos h]
   refine Wt.then (ih 7 op ts) (fun a t1 ha=>?_) fun a t1 ha=>by omega
   exact Wt.lift (chain_wt _ (ih 7 op) 4 n a t1) (by omega)
  rw[if_neg h]
  clear h
  by_cases h:r=7
  ·rw[if_pos h]
   refine Wt.then (ih 8 op ts) (fun a t1 ha=>?_) fun a t1 ha=>by omega
   exact Wt.lift (chain_wt _ (ih 8 op) 5 n a t1) (by omega)
  rw[if_neg h]
  clear h
  by_cases h:r=8
  ·rw[if_pos h]
   split
   ·rename_i h
    have h1:=text_took h (by decide)
    refine open_wt ?_
    refine Wt.lift (t:=ts.tail) (m:=1) (Wt.then (ih 8 (op+1) ts.tail) (fun a t2 ha=>?_) fun a t2 ha=>by omega) (by omega)
    refine Wt.ok ?_
    rw[mk1_bulk]
    omega
   ·split
    ·rename_i h
     have h1:=text_took h (by decide)
     refine open_wt ?_
     refine Wt.lift (t:=ts.tail) (m:=1) (Wt.then (ih 8 (op+1) ts.tail) (fun a t2 ha=>?_) fun a t2 ha=>by omega) (by omega)
     refine Wt.ok ?_
     rw[mk1_bulk]
     omega
    ·exact ih 9 op ts
  rw[if_neg h]
  clear h
  by_cases h:r=9
  ·rw[if_pos h]
   refine Wt.then (ih 10 op ts) (fun a t1 ha=>?_) fun a t1 ha=>by omega
   exact Wt.lift (post_wt n a t1) (by omega)
  rw[if_neg h]
  clear h
  by_cases h:(hd ts).kind=2
  ·rw[if_pos h]
   have h1:=kind_took h (by decide)
   refine Wt.ok ?_
   simp only[leafE,Ex.bulk,bulks,empty_size]
   omega
  rw[if_neg h]
  clear h
  by_cases h:(hd ts).kind=1
  ·rw[if_pos h]
   have h1:=kind_took h (by decide)
   split
   ·refine open_wt ?_
    have h2:=wt_tail ts.tail
    refine Wt.lift (t:=ts.tail.tail) (m:=1+(hd ts).text.size) (Wt.then (listT_wt bulks Ex.bulk bulks_more rfl _ (ih 0 (op+1)) _ n ts.tail.tail) (fun l t2 hl=>?_) fun l t2 hl=>by omega) (by omega)
    refine(want_wl _ t2).then fun _ t3 h3=>Wt.ok ?_
    simp only[Ex.bulk]
    omega
   ·refine Wt.ok ?_
    simp only[Ex.bulk,bulks]
    omega
  rw[if_neg h]
  clear h
  by_cases h:(hd ts).text=⟨#[116,114,117,101]⟩
  ·rw[if_pos h]
   have h1:=text_took h (by decide)
   refine Wt.ok ?_
   simp only[leafE,Ex.bulk,bulks,empty_size]
   omega
  rw[if_neg h]
  clear h
  by_cases h:(hd ts).text=⟨#[102,97,108,115,101]⟩
  ·rw[if_pos h]
   have h1:=text_took h (by decide)
   refine Wt.ok ?_
   simp only[leafE,Ex.bulk,bulks,empty_size]
   omega
  rw[if_neg h]
  clear h
  by_cases h:(hd ts).text=⟨#[40]⟩
  ·rw[if_pos h]
   have h1:=text_took h (by decide)
   refine open_wt ?_
   refine Wt.lift (t:=ts.tail) (m:=1) (Wt.then (ih 0 (op+1) ts.tail) (fun a t2 ha=>?_) fun a t2 ha=>by omega) (by omega)
   exact(want_wl _ t2).then fun _ t3 h3=>Wt.ok (by omega)
  rw[if_neg h]
  exact Wt.error
theorem param_wl(ts:List Tok):Wl (paramT ts) ts:=by
 unfold paramT
 refine(name_wl ts).then fun s t1 h1=>(want_wl _ t1).then fun _ t2 h2=>?_
 split
 ·exact Wt.ok (by have:=wt_tail t2;omega)
 ·exact(want_wl _ t2).then fun _ t3 h3=>Wt.ok (by omega)
theorem in_wl(ts:List Tok):Wl (inT ts) ts:=by
 unfold inT
 refine(param_wl ts).then fun p t1 h1=>?_
 split
 ·have:=wt_tail t1
  refine Wt.lift (t:=t1.tail) (m:=0) ((want_wl _ t1.tail).then fun _ t2 h2=>(num_wl 1 t2).then fun a t3 h3=>(want_wl _ t3).then fun _ t4 h4=>(num_wl 0 t4).then fun b t5 h5=>(want_wl _ t5).then fun _ t6 h6=>Wt.ok (by omega)) (by omega)
 ·exact Wt.ok (by omega)
theorem out_wl(ts:List Tok):Wl (outT ts) ts:=by
 unfold outT
 refine(param_wl ts).then fun p t1 h1=>?_
 split
 ·have:=wt_tail t1
  exact Wt.lift (t:=t1.tail) (m:=0) ((num_wl 1 t1.tail).then fun a t2 h2=>Wt.ok (by omega)) (by omega)
 ·exact Wt.ok (by omega)
theorem params_wl(one:List Tok→PR Pm)(h1:∀ts,Wl (one ts) ts)(n:Nat)(ts:List Tok):Wl (paramsT one n ts) ts:=by
 unfold paramsT
 refine(want_wl _ ts).then fun _ t1 g1=>?_
 split
 ·exact Wt.ok (by have:=wt_tail t1;omega)
 ·exact Wt.lift (m:=0) (t:=t1) ((listT_wt (fun _=>0) (fun _=>0) (fun _ _=>rfl) rfl one h1 _ n t1).then (fun l t2 g2=>(want_wl _ t2).then fun _ t3 g3=>Wt.ok (by omega)) fun l t2 g2=>by omega) (by omega)
theorem vars_wl:∀n l ts,Wl (varsL n l ts) ts
 | 0,_,_=>Wt.error
 | n+1,l,ts=>by
  unfold varsL
  split
  ·exact Wt.ok (Nat.le_refl _)
  ·exact(param_wl ts).then fun p t1 h1=>(want_wl _ t1).then fun _ t2 h2=>Wt.lift (vars_wl n _ t2) (by omega)
theorem varsT_wl(n:Nat)(ts:List Tok):Wl (varsT n ts) ts:=by
 unfold varsT
 split
 ·exact Wt.lift (vars_wl n [] ts.tail) (by have:=wt_tail ts;omega)
 ·exact Wt.ok (Nat.le_refl _)
theorem eqR_wt(n op:Nat)(pl:Int)(ns:List ByteArray)(ts:List Tok):Wt (fun q:Eqn=>q.e.bulk) 0 (eqR n op pl ns ts) ts:=by
 unfold eqR
 refine(want_wl _ ts).then fun _ t1 h1=>?_
 refine Wt.then (pp_wt n 0 op t1) (fun e t2 h2=>?_) fun e t2 h2=>by omega
 exact(want_wl _ t2).then fun _ t3 h3=>Wt.ok (by show e.bulk+_≤_;omega)
theorem eqT_wt(n op:Nat)(ts:List Tok):Wt (fun q:Eqn=>q.e.bulk) 0 (eqT n op ts) ts:=by
 unfold eqT
 split
 ·have h0:=wt_tail ts
  refine Wt.lift (m:=0) (t:=ts.tail) ((listT_wt (fun _=>0) (fun _=>0) (fun _ _=>rfl) rfl nameT name_wl _ n ts.tail).then (fun l t1 h1=>?_) fun l t1 h1=>by omega) (by omega)
  exact(want_wl _ t1).then fun _ t2 h2=>Wt.lift (eqR_wt n op _ _ t2) (by omega)
 ·exact(name_wl ts).then fun s t1 h1=>Wt.lift (eqR_wt n op _ _ t1) (by omega)
def eqBulks:List Eqn→Nat
 | []=>0
 | q::r=>q.e.bulk+eqBulks r
theorem eqBulks_app(a b:List Eqn):eqBulks (a++b)=eqBulks a+eqBulks b:=by
 induction a with
 | nil=>simp[eqBulks]
 | cons q r ih=>simp only[List.cons_append,eqBulks,ih];omega
def ndBulks:List Nd→Nat
 | []=>0
 | n::r=>eqBulks n.eqs+ndBulks r
theorem ndBulks_app(a b:List Nd):ndBulks (a++b)=ndBulks a+ndBulks b:=by
 induction a with
 | nil=>simp[ndBulks]
 | cons q r ih=>simp only[List.cons_append,ndBulks,ih];omega
theorem eqs_wt(n op:Nat):∀k l ts,Wt eqBulks (eqBulks l) (eqsL n op k l ts) ts
 | 0,_,_=>Wt.error
 | k+1,l,ts=>by
  unfold eqsL
  split
  ·exact Wt.ok (by have:=wt_tail ts;omega)
  ·refine Wt.then (eqT_wt n op ts) (fun q t1 h1=>?_) fun q t1 h1=>by omega
   refine Wt.lift (eqs_wt n op k _ t1) ?_
   rw[eqBulks_app]
   simp only[eqBulks]
   omega
theorem inOf_wl(fl:Bool)(ts:List Tok):Wl (inOf fl ts) ts:=by
 unfold inOf
 split
 ·exact in_wl ts
 ·exact param_wl ts
theorem outOf_wl(fl:Bool)(ts:List Tok):Wl (outOf' fl ts) ts:=by
 unfold outOf'
 split
 ·exact out_wl ts
 ·exact param_wl ts
theorem node_wt(n op:Nat)(ts:List Tok):Wt (fun d:Nd=>eqBulks d.eqs) 0 (nodeT n op ts) ts:=by
 unfold nodeT
 have h0:=wt_tail ts
 refine Wt.lift (m:=0) (t:=ts.tail) ((name_wl ts.tail).then fun s t1 h1=>?_) (by omega)
 refine(params_wl _ (inOf_wl _) n t1).then fun i t2 h2=>(want_wl _ t2).then fun _ t3 h3=>?_
 refine(params_wl _ (outOf_wl _) n t3).then fun o t4 h4=>(varsT_wl n t4).then fun v t5 h5=>(want_wl _ t5).then fun _ t6 h6=>?_
 refine Wt.then (eqs_wt n op n [] t6) (fun q t7 h7=>Wt.ok ?_) fun q t7 h7=>by simp only[eqBulks] at h7;omega
 show eqBulks q+_≤_
 simp only[eqBulks] at h7
 omega
theorem nodes_wt(n op:Nat):∀k l ts,Wt ndBulks (ndBulks l) (nodesL n op k l ts) ts
 | 0,_,_=>Wt.error
 | k+1,l,ts=>by
  unfold nodesL
  split
  ·refine Wt.then (node_wt n op ts) (fun q t1 h1=>?_) fun q t1 h1=>by omega
   refine Wt.lift (nodes_wt n op k _ t1) ?_
   rw[ndBulks_app]
   simp only[ndBulks]
   omega
  ·exact Wt.ok (Nat.le_refl _)
end Go.Proofs.YthbgnpkgglbhjaaGreatDoor
