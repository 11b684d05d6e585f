import Derived.Test.YthbgnpkgglbhjaaGreatDoorRdTok
import Derived.Test.YthbgnpkgglbhjaaGreatDoorExAll
namespace Go.Proofs.YthbgnpkgglbhjaaGreatDoor
open Go.RowKit
open Ex.size Ex.depth Ex.lies Ex.bulk Ex.good
def noTok:Tok:=⟨0,⟨#[]⟩,0,0⟩
def hd(ts:List Tok):Tok:=ts.headD noTok
abbrev PR (α:Type):=Except (Nat × Int) (α × List Tok)
def PR.then{α β:Type}(r:PR α)(f:α→List Tok→PR β):PR β:=match r with
 | .error e=>.error e
 | .ok (a,ts)=>f a ts
def sgn(rule:Int)(ts:List Tok):Option Int:=match sgOf (hd ts).text.data.toList with
 | some (r,k)=>if r=rule then some k else none
 | none=>none
def wantT(s:ByteArray)(ts:List Tok):PR Unit:=if (hd ts).text=s then .ok ((),ts.tail) else .error ((hd ts).place,60)
def numT(l:Int)(ts:List Tok):PR Int:=if (hd ts).kind=2∧¬(hd ts).int<l then .ok ((hd ts).int,ts.tail) else .error ((hd ts).place,60)
def nameT(ts:List Tok):PR ByteArray:=if (hd ts).kind=1 then .ok ((hd ts).text,ts.tail) else .error ((hd ts).place,60)
def openT{α:Type}(op:Nat)(ts:List Tok)(f:List Tok→PR α):PR α:=if op=200 then .error ((hd ts).place,61) else f ts.tail
def mk1(k:Int)(pl:Int)(e:Ex)(it dn:Int):Ex:=.mk k pl ⟨#[]⟩ it dn none 0 [e]
def mk2(k:Int)(a b:Ex):Ex:=.mk k a.pl ⟨#[]⟩ 0 0 none 0 [a,b]
def leafE(k:Int)(pl:Int)(it:Int):Ex:=.mk k pl ⟨#[]⟩ it 0 none 0 []
def chainL(part:List Tok→PR Ex)(rule:Int):Nat→Ex→List Tok→PR Ex
 | 0,_,_=>.error (0,0)
 | n+1,e,ts=>match sgn rule ts with
  | none=>.ok (e,ts)
  | some k=>(part ts.tail).then fun e2 ts2=>chainL part rule n (mk2 k e e2) ts2
def lateT(ts:List Tok):PR (Int × Int):=(numT 0 ts).then fun a ts1=>if (hd ts1).text=⟨#[47]⟩ then (numT 1 ts1.tail).then fun b ts2=>.ok ((a,b),ts2) else .ok ((a,1),ts1)
def postL:Nat→Ex→List Tok→PR Ex
 | 0,_,_=>.error (0,0)
 | n+1,e,ts=>match sgn 6 ts with
  | none=>.ok (e,ts)
  | some k=>if k=26 then (lateT ts.tail).then fun x ts1=>postL n (mk1 k e.pl e x.1 x.2) ts1 else (numT 1 ts.tail).then fun a ts1=>postL n (mk1 k e.pl e a 0) ts1
def listL{α:Type}(part:List Tok→PR α)(s:ByteArray):Nat→List α→List Tok→PR (List α)
 | 0,_,_=>.error (0,0)
 | n+1,l,ts=>if (hd ts).text=s then (part ts.tail).then fun e ts1=>listL part s n (l++[e]) ts1 else .ok (l,ts)
def listT{α:Type}(part:List Tok→PR α)(s:ByteArray)(n:Nat)(ts:List Tok):PR (List α):=(part ts).then fun e ts1=>listL part s n [e] ts1
def pp:Nat→Nat→Nat→List Tok→PR Ex
 | 0,_,_,_=>.error (0,0)
 | n+1,r,op,ts =>
  if r=0 then
   if (hd ts).text=⟨#[105,102]⟩ then openT op ts fun t1 =>
    (pp n 0 (op+1) t1).then fun a t2=>(wantT ⟨#[116,104,101,110]⟩ t2).then fun _ t3 =>
    (pp n 0 (op+1) t3).then fun b t4=>(wantT ⟨#[101,108,115,101]⟩ t4).then fun _ t5 =>
    (pp n 0 (op+1) t5).then fun c t6=>.ok (.mk 20 (hd ts).place ⟨#[]⟩ 0 0 none 0 [a,b,c],t6)
   else pp n 1 op ts
  else if r=1 then (pp n 2 op ts).then fun a t1=>match sgn 0 t1 with
   | none=>.ok (a,t1)
   | some k=>openT op t1 fun t2=>(pp n 1 (op+1) t2).then fun b t3=>.ok (mk2 k a b,t3)
  else if r=2 then (pp n 3 op ts).then fun a t1=>chainL (pp n 3 op) 1 n a t1
  else if r=3 then (pp n 4 op ts).then fun a t1=>chainL (pp n 4 op) 2 n a t1
  else if r=4 then
   if (hd ts).text=⟨#[110,111,116]⟩ then openT op ts fun t1=>(pp n 4 (op+1) t1).then fun a t2=>.ok (mk1 6 (hd ts).place a 0 0,t2)
   else pp n 5 op ts
  else if r=5 then (pp n 6 op ts).then fun a t1=>match sgn 3 t1 with
   | none=>.ok (a,t1)
   | some k=>(pp n 6 op t1.tail).then fun b t2=>.ok (mk2 k a b,t2)
  else if r=6 then (pp n 7 op ts).then fun a t1=>chainL (pp n 7 op) 4 n a t1
  else if r=7 then (pp n 8 op ts).then fun a t1=>chainL (pp n 8 op) 5 n a t1
  else if r=8 then
   if (hd ts).text=⟨#[45]⟩ then openT op ts fun t1=>(pp n 8 (op+1) t1).then fun a t2=>.ok (mk1 5 (hd ts).place a 0 0,t2)
   else if (hd ts).text=⟨#[116,97,105,108]⟩ then openT op ts fun t1=>(pp n 8 (op+1) t1).then fun a t2=>.ok (mk1 23 (hd ts).place a 0 0,t2)
   else pp n 9 op ts
  else if r=9 then (pp n 10 op ts).then fun a t1=>postL n a t1
  else if (hd ts).kind=2 then .ok (leafE 2 (hd ts).place (hd ts).int,ts.tail)
  else if (hd ts).kind=1 then
   if (hd ts.tail).text=⟨#[40]⟩ then openT op ts.tail fun t1=>(listT (pp n 0 (op+1)) ⟨#[44]⟩ n t1).then fun l t2=>(wantT ⟨#[41]⟩ t2).then fun _ t3=>.ok (.mk 4 (hd ts).place (hd ts).text 0 0 none 0 l,t3)
   else .ok (.mk 1 (hd ts).place (hd ts).text 0 0 none 0 [],ts.tail)
  else if (hd ts).text=⟨#[116,114,117,101]⟩ then .ok (leafE 3 (hd ts).place 1,ts.tail)
  else if (hd ts).text=⟨#[102,97,108,115,101]⟩ then .ok (leafE 3 (hd ts).place 0,ts.tail)
  else if (hd ts).text=⟨#[40]⟩ then openT op ts fun t1=>(pp n 0 (op+1) t1).then fun a t2=>(wantT ⟨#[41]⟩ t2).then fun _ t3=>.ok (a,t3)
  else .error ((hd ts).place,60)
def Tok.fine(t:Tok):Prop:=t.text.size≤1000000∧(Lit.int .i64 t.int).wf=true∧(Lit.int .i64 t.place).wf=true
def Ends(ts:List Tok):Prop:=(∃l e,ts=l++[e]∧e.kind=0∧e.text=⟨#[]⟩)∧(∀t∈ts,t.fine)∧ts.length≤100000
theorem Ends.fine{t:Tok}{ts:List Tok}(h:Ends (t::ts)):t.fine:=h.2.1 t (by simp)
theorem Ends.few{ts:List Tok}(h:Ends ts):ts.length≤100000:=h.2.2
theorem Ends.more{t:Tok}{ts:List Tok}(h:Ends (t::ts))(hn:t.kind≠0∨t.text≠⟨#[]⟩):Ends ts∧∃t' r,ts=t'::r:=by
 obtain⟨⟨l,e,h1,h2,h3⟩,hf,hn'⟩:=h
 cases l with
 | nil =>
  simp only[List.nil_append,List.cons.injEq] at h1
  obtain⟨rfl,-⟩:=h1
  rcases hn with hn|hn
  ·exact absurd h2 hn
  ·exact absurd h3 hn
 | cons x l =>
  simp only[List.cons_append,List.cons.injEq] at h1
  obtain⟨rfl,rfl⟩:=h1
  refine⟨⟨⟨l,e,rfl,h2,h3⟩,fun t ht=>hf t (by simp[ht]),by simp only[List.length_cons] at hn';omega⟩,?_⟩
  cases l with
  | nil=>exact⟨e,[],rfl⟩
  | cons y l=>exact⟨y,l++[e],rfl⟩
theorem Ends.ne{ts:List Tok}(h:Ends ts):∃t r,ts=t::r:=by
 obtain⟨⟨l,e,rfl,-⟩,-⟩:=h
 cases l with
 | nil=>exact⟨e,[],rfl⟩
 | cons y l=>exact⟨y,l++[e],rfl⟩
theorem sgn_text{rule k:Int}{t:Tok}{ts:List Tok}(h:sgn rule (t::ts)=some k):t.text≠⟨#[]⟩:=by
 intro he
 have:sgOf ([]:List UInt8)=none:=by decide +kernel
 simp only[sgn,hd,List.headD_cons,he] at h
 rw[this] at h
 cases h
theorem sgn_wf{rule k:Int}{ts:List Tok}(h:sgn rule ts=some k):(Lit.int .u8 k).wf=true:=by
 have h1:∀x∈signTab,(Lit.int .u8 x.2.2).wf=true:=by decide +kernel
 unfold sgn at h
 split at h
 ·rename_i r k' hs
  split at h
  ·obtain⟨x,hx,hx2⟩:=Option.map_eq_some_iff.1 hs
   have h2:=h1 x (List.mem_of_find?_eq_some hx)
   rw[hx2] at h2
   injection h with h
   rw[←h]
   exact h2
  ·cases h
 ·cases h
def Ex.bare:Ex→Ex
 | .mk kd pl nm it dn _ _ l=>.mk kd pl nm it dn none 0 (bares l)
where bares:List Ex→List Ex
 | []=>[]
 | e::r=>e.bare::bares r
open Ex.bare
theorem bares_map(l:List Ex):bares l=l.map Ex.bare:=by
 induction l with
 | nil=>rfl
 | cons e r ih=>simp only[bares,ih,List.map_cons]
def KeepsQ(Q:Nat→Prop)(w w':World):Prop:=w.heap.size≤w'.heap.size∧∀k,Q k→k<w.heap.size→w'.heap[k]?=w.heap[k]?
theorem KeepsQ.trans{Q:Nat→Prop}{a b c:World}(h:KeepsQ Q a b)(k:KeepsQ Q b c):KeepsQ Q a c:=⟨Nat.le_trans h.1 k.1,fun i hi hl=>(k.2 i hi (Nat.lt_of_lt_of_le hl h.1)).trans (h.2 i hi hl)⟩
theorem KeepsQ.ofB{Q:Nat→Prop}{R:Nat}{w w':World}(h:KeepsB R w w')(hR:¬Q R):KeepsQ Q w w':=⟨h.size,fun k hk hl=>h.block k hl fun e=>hR (e▸hk)⟩
theorem KeepsQ.ofBelow{Q:Nat→Prop}{w w':World}(h:Below w.heap.size w w'):KeepsQ Q w w':=⟨h.size,fun k _ hl=>h.block k hl⟩
theorem KeepsQ.set{Q:Nat→Prop}{b i:Nat}{v:Value}{w:World}(hb:¬Q b):KeepsQ Q w (w.setCell ⟨b,i,none⟩ v):=⟨by simp,fun k hk _=>Below.heap_setCell _ _ _ _ (show k≠b from fun e=>hb (e▸hk))⟩
def Lies(Q:Nat→Prop)(w:World)(x:Ex):Prop:=∀w',KeepsQ Q w w'→x.lies w'
theorem Lies.keep{Q:Nat→Prop}{w w':World}{x:Ex}(h:Lies Q w x)(hk:KeepsQ Q w w'):Lies Q w' x:=fun w'' h2=>h w'' (hk.trans h2)
theorem Lies.mono{Q Q':Nat→Prop}{w:World}{x:Ex}(h:Lies Q w x)(hq:∀k,k<w.heap.size→Q k→Q' k):Lies Q' w x:=fun w' hk=>h w' ⟨hk.1,fun k h1 h2=>hk.2 k (hq k h2 h1) h2⟩
theorem lies_two{Q:Nat→Prop}{c:Nat}{w:World}{k p it dn:Int}{nm:ByteArray}{x y:Ex}(hc:∀j,j<12→w.cell? ⟨c,j,none⟩=(x.cells++y.cells)[j]?)(hQ:Q c)(hlt:c<w.heap.size)(hx:Lies Q w x)(hy:Lies Q w y):Lies Q w (.mk k p nm it dn (some ⟨c,0,none⟩) 2 [x,y]):=fun w' hk=>by
 have hcx:x.cells.length=6:=by cases x;rfl
 have hc':∀j,j<12→w'.cell? ⟨c,j,none⟩=(x.cells++y.cells)[j]?:=fun j hj=>(World.cell?_of_block (hk.2 c hQ hlt)).trans (hc j hj)
 refine⟨c,0,fun _=>rfl,fun j hj=>?_,hx w' hk,fun j hj=>?_,hy w' hk,trivial⟩
 ·rw[Nat.zero_add,hc' j (by omega),List.getElem?_append_left (by omega)]
 ·rw[Nat.zero_add,hc' (6+j) (by omega),List.getElem?_append_right (by omega),hcx,show 6+j-6=j by omega]
theorem lies_one{Q:Nat→Prop}{c:Nat}{w:World}{k p it dn:Int}{nm:ByteArray}{x:Ex}(hc:∀j,j<6→w.cell? ⟨c,j,none⟩=x.cells[j]?)(hQ:Q c)(hlt:c<w.heap.size)(hx:Lies Q w x):Lies Q w (.mk k p nm it dn (some ⟨c,0,none⟩) 1 [x]):=fun w' hk =>
 ⟨c,0,fun _=>rfl,fun j hj=>by rw[Nat.zero_add,World.cell?_of_block (hk.2 c hQ hlt)];exact hc j hj,hx w' hk,trivial⟩
def IsEx(base:Nat)(w:World)(e:Ex)(v:Value):Prop:=∃x:Ex,x.bare=e∧v=x.val∧Lies (fun k=>base≤k) w x∧x.good
def Post{α:Type}(W0:World)(R op:Nat)(w:World)(p:PR α)(Is:World→α→Value→Prop)(x:Ending)(w':World):Prop:=KeepsB R w w'∧match p with
 | .ok (a,ts')=>(∃v,x=.returned v∧Is w' a v)∧RdAt W0 R ts' op w'∧Ends ts'
 | .error (k,e)=>x=.panicked [{ v:=badVal k e,recovered:=false }]∧∃ts',RdAt W0 R ts' op w'
def DoesE(W0:World)(R:Nat)(f:Nat)(p:Nat→List Tok→PR Ex):Prop:=∀(op:Nat)(ts:List Tok)(w:World),Ends ts→RdAt W0 R ts op w→(∀k,p op ts≠.error (k,0))→Calls Tryz.prog f #[rp R] w (Post W0 R op w (p op ts) (IsEx w.heap.size))
end Go.Proofs.YthbgnpkgglbhjaaGreatDoor
