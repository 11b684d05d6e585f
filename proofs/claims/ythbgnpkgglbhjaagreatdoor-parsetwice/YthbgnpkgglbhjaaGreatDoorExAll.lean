import Derived.Test.YthbgnpkgglbhjaaGreatDoorLater
import Derived.Below
import Derived.Test.YthbgnpkgglbhjaaGreatDoorRows
import Derived.ProofKit
import Derived.Test.YthbgnpkgglbhjaaGreatDoorProg
import Derived.WalkKit
namespace Go.Proofs.YthbgnpkgglbhjaaGreatDoor
open Go.RowKit
structure Ex where
 kd:Int
 pl:Int
 nm:ByteArray
 it:Int
 dn:Int
 ad:Option Addr
 cap:Nat
 args:List Ex
namespace Ex
def cells:Ex→List Value|.mk kd pl nm it dn a c l=>[.int .u8 kd,.int .i64 pl,.string nm,.int .i64 it,.int .i64 dn,.slice a l.length c]
def val(e:Ex):Value:=.agg e.cells.toArray
end Ex
def Ex.size:Ex→Nat
 | .mk _ _ _ _ _ _ _ l=>1+sizes l
where sizes:List Ex→Nat
 | []=>0
 | e::r=>e.size+sizes r
open Ex.size
def Ex.depth:Ex→Nat
 | .mk _ _ _ _ _ _ _ l=>deepest l+1
where deepest:List Ex→Nat
 | []=>0
 | e::r=>max e.depth (deepest r)
open Ex.depth
def Ex.lies(w:World):Ex→Prop
 | .mk _ _ _ _ _ a _ l=>∃b o,(l≠[]→a=some ⟨b,o,none⟩)∧lieAt b o l
where lieAt (b:Nat):Nat→List Ex→Prop
 | _,[]=>True
 | o,e::r=>(∀j,j<6→w.cell? ⟨b,o+j,none⟩=e.cells[j]?)∧e.lies w∧lieAt b (o+6) r
open Ex.lies
theorem sizes_at(l:List Ex)(i:Nat)(h:i<l.length):sizes (l.take (i+1))=sizes (l.take i)+l[i].size:=by
 induction l generalizing i with
 | nil=>simp at h
 | cons e r ih =>
  cases i with
  | zero=>simp[sizes]
  | succ i =>
   have:=ih i (by simpa using h)
   simp only[List.take_succ_cons,sizes,List.getElem_cons_succ]
   omega
theorem sizes_take(l:List Ex)(i:Nat):sizes (l.take i)≤sizes l:=by
 induction l generalizing i with
 | nil=>simp
 | cons e r ih =>
  cases i with
  | zero=>simp[sizes]
  | succ i =>
   have:=ih i
   simp only[List.take_succ_cons,sizes]
   omega
theorem deepest_at(l:List Ex)(i:Nat)(h:i<l.length):deepest (l.take (i+1))=max (deepest (l.take i)) l[i].depth:=by
 induction l generalizing i with
 | nil=>simp at h
 | cons e r ih =>
  cases i with
  | zero=>simp[deepest]
  | succ i =>
   have:=ih i (by simpa using h)
   simp only[List.take_succ_cons,deepest,List.getElem_cons_succ]
   omega
theorem lieAt_get{w:World}{b:Nat}(l:List Ex)(o i:Nat)(h:lieAt w b o l)(hi:i<l.length):(∀j,j<6→w.cell? ⟨b,o+i*6+j,none⟩=l[i].cells[j]?)∧l[i].lies w:=by
 induction l generalizing o i with
 | nil=>simp at hi
 | cons e r ih =>
  cases i with
  | zero=>simpa [lieAt] using⟨h.1,h.2.1⟩
  | succ i =>
   have:=ih (o+6) i h.2.2 (by simpa using hi)
   refine⟨fun j hj=>?_,this.2⟩
   have h1:=this.1 j hj
   rw[show o+(i+1)*6+j=o+6+i*6+j by omega]
   exact h1
theorem size_pos(e:Ex):1≤e.size:=by
 cases e
 simp[Ex.size]
theorem size_arg{l:List Ex}{i:Nat}(h:i<l.length):l[i].size≤sizes l:=by
 have h1:=sizes_at l i h
 have h2:=sizes_take l (i+1)
 omega
theorem lies_below{w w':World}(hb:Below w.heap.size w w'):∀e:Ex,e.lies w→e.lies w'
 | .mk _ _ _ _ _ _ _ l,⟨b,o,h1,h2⟩=>⟨b,o,h1,all b o l h2⟩
where all (b:Nat):∀(o:Nat)(l:List Ex),lieAt w b o l→lieAt w' b o l
 | _,[],_=>trivial
 | o,e::r,⟨h1,h2,h3⟩=>by
  have hlt:b<w.heap.size:=by
   have h0:=h1 0 (by omega)
   cases e
   exact World.block_lt_of_cell? w ⟨b,o+0,none⟩ h0
  exact⟨fun j hj=>(hb.cell (p:=⟨b,o+j,none⟩) hlt).trans (h1 j hj),lies_below hb e h2,all b (o+6) r h3⟩
theorem depth_le:∀e:Ex,e.depth≤e.size
 | .mk _ _ _ _ _ _ _ l=>by
  have:=all l
  simp only[Ex.depth,Ex.size]
  omega
where all:∀l:List Ex,deepest l≤sizes l
 | []=>by simp[deepest,sizes]
 | e::r=>by
  have h1:=depth_le e
  have h2:=all r
  simp only[deepest,sizes]
  omega
theorem deepest_le(l:List Ex):deepest l≤sizes l:=depth_le.all l
open Go.ChangeShapes Go.WideShapes
def Ex.bulk:Ex→Nat
 | .mk _ _ nm _ _ _ _ l=>1+nm.size+bulks l
where bulks:List Ex→Nat
 | []=>0
 | e::r=>e.bulk+bulks r
open Ex.bulk
def Ex.good:Ex→Prop
 | .mk kd pl nm it dn _ cap l=>((Lit.int .u8 kd).wf=true∧(Lit.int .i64 pl).wf=true∧nm.size≤maxLen∧(Lit.int .i64 it).wf=true∧(Lit.int .i64 dn).wf=true∧l.length≤cap∧cap≤maxLen)∧goods l
where goods:List Ex→Prop
 | []=>True
 | e::r=>e.good∧goods r
open Ex.good
theorem goods_get{l:List Ex}{i:Nat}(h:goods l)(hi:i<l.length):l[i].good:=by
 induction l generalizing i with
 | nil=>simp at hi
 | cons e r ih =>
  cases i with
  | zero=>exact h.1
  | succ i=>exact ih h.2 (by simpa using hi)
theorem addr_add(b o k:Nat):(⟨b,o,none⟩:Addr).add k=⟨b,o+k,none⟩:=by unfold Addr.add;split<;>simp_all
end Go.Proofs.YthbgnpkgglbhjaaGreatDoor
namespace Go.Proofs.YthbgnpkgglbhjaaGreatDoor
open Go.RowKit
open Ex.size Ex.depth Ex.lies
theorem ret_nat{a b:Int}(h:a=b):Ending.returned (.int .i64 a)=.returned (.int .i64 b):=by rw[h]
set_option maxRecDepth 100000 in
set_option maxHeartbeats 3200000 in
theorem size_calls(m:Nat):∀(e:Ex),e.size≤m→e.size≤1048576→∀w,e.lies w→Calls Tryz.prog 42 #[e.val] w fun x w'=>x=.returned (.int .i64 e.size)∧Below w.heap.size w w':=by
 induction m with
 | zero=>intro e h;have:=size_pos e;omega
 | succ m ih =>
  rintro⟨kd,pl,nm,it,dn,a,cap,l⟩ hm hbig w ⟨b,o,hla,hlie⟩
  obtain⟨n,hn⟩:=nw (l.length)
  have HM:Hid (1+sizes l≤m+1):=hm
  have HG:Hid (1+sizes l≤1048576):=hbig
  have hnb:n≤1048576:=by
   have:l.length≤sizes l:=by
    clear hla hlie hn HM HG hm hbig ih
    induction l with
    | nil=>simp
    | cons e r ihr=>have:=size_pos e;simp only[List.length_cons,sizes];omega
   have:=HG.out
   omega
  clear hm hbig
  simp only[Ex.val,Ex.cells,Ex.size,List.toArray]
  rw[←hn]
  have HN:=hid hn
  have HLA:Hid _:=hla
  have HLie:Hid _:=hlie
  have HIH:Hid _:=ih
  clear hn hla hlie ih
  go_enter Tryz.func42,Tryz.ntmps42
  go_wp2_with fail
  go_loopw [3,4] (fun s i wr=>∃k:Nat,k≤n∧i=.int .i64 k∧s=.int .i64 (1+sizes (l.take k):Nat)∧wr.cell? ⟨w.heap.size,5,none⟩=some (.slice a n cap)∧w.heap.size<wr.heap.size∧Hid (Below w.heap.size w wr)) (fun _ i _=>n-(intOf i).toNat)
  case atStart=>exact⟨0,by omega,rfl,by simp[sizes],by simp,by simp,bal _⟩
  case round =>
   obtain⟨k,hk,rfl,rfl,hbox,hsz,HB⟩:=hrel
   by_cases hlt:k<n
   ·have hkl:k<l.length:=by rw[←HN.out];exact hlt
    obtain rfl:=HLA.out (by intro h;rw[h] at hkl;simp at hkl)
    obtain⟨hc,hli⟩:=lieAt_get l o k HLie.out hkl
    have hs1:=sizes_at l k hkl
    have hs2:=sizes_take l (k+1)
    have hs3:=size_arg hkl
    have HS:=hid hs1
    have hblk:b<w.heap.size:=by
     have h0:=hc 0 (by omega)
     cases hx:l[k]
     rw[hx] at h0
     exact World.block_lt_of_cell? w ⟨b,_,none⟩ h0
    have hcr:∀j,j<6→wr.cell? ⟨b,o+k*6+j,none⟩=l[k].cells[j]?:=fun j hj=>(HB.out.cell (p:=⟨b,o+k*6+j,none⟩) hblk).trans (hc j hj)
    have CC:=HIH.out l[k] (by have:=HM.out;omega) (by have:=HG.out;omega) wr (lies_below HB.out _ hli)
    have hbnd:sizes (l.take k)+l[k].size≤1048576:=by have:=HG.out;omega
    generalize l[k]=x at hcr CC HS hbnd
    obtain⟨kd',pl',nm',it',dn',a',cap',l'⟩:=x
    have c0:wr.cell? ⟨b,o+k*6,none⟩=some (.int .u8 kd'):=hcr 0 (by omega)
    have c1:wr.cell? ⟨b,o+k*6+1,none⟩=some (.int .i64 pl'):=hcr 1 (by omega)
    have c2:wr.cell? ⟨b,o+k*6+2,none⟩=some (.string nm'):=hcr 2 (by omega)
    have c3:wr.cell? ⟨b,o+k*6+3,none⟩=some (.int .i64 it'):=hcr 3 (by omega)
    have c4:wr.cell? ⟨b,o+k*6+4,none⟩=some (.int .i64 dn'):=hcr 4 (by omega)
    have c5:wr.cell? ⟨b,o+k*6+5,none⟩=some (.slice a' l'.length cap'):=hcr 5 (by omega)
    simp only[Ex.val,Ex.cells,List.toArray] at CC
    generalize Ex.size (.mk kd' pl' nm' it' dn' a' cap' l')=z at CC HS hbnd
    clear hc hcr hli hs1 hs2 hs3 hblk hkl
    go_wp2_with fail
    refine CC.mono ?_
    rintro e w2 ⟨rfl,hb2⟩
    have hbox2:w2.cell? ⟨w.heap.size,5,none⟩=some (.slice (some ⟨b,o,none⟩) n cap):=(hb2.cell (p:=⟨w.heap.size,5,none⟩) hsz).trans hbox
    have hsz2:w.heap.size<w2.heap.size:=by have:=hb2.size;omega
    have HB2:Hid (Below w.heap.size w w2):=HB.out.trans (hb2.mono (by omega))
    clear CC hb2 c0 c1 c2 c3 c4 c5 hbox hsz HB
    go_wp2_with fail
    go_roundw
    case rel=>exact⟨k+1,by omega,by go_num,by rw[HS.out];exact congrArg (Value.int .i64) (by omega),hbox2,hsz2,HB2⟩
    case measure=>simp[intOf];omega
   ·obtain rfl:k=n:=by omega
    have hst:sizes (l.take k)=sizes l:=by rw[HN.out,List.take_length]
    have HST:Hid _:=hst
    clear hst
    go_wp2_with fail
    go_ret
    exact⟨ret_nat (by rw[HST.out]),HB.out⟩
set_option maxRecDepth 100000 in
set_option maxHeartbeats 3200000 in
theorem depth_calls(m:Nat):∀(e:Ex),e.size≤m→e.size≤1048576→∀w,e.lies w→Calls Tryz.prog 43 #[e.val] w fun x w'=>x=.returned (.int .i64 e.depth)∧Below w.heap.size w w':=by
 induction m with
 | zero=>intro e h;have:=size_pos e;omega
 | succ m ih =>
  rintro⟨kd,pl,nm,it,dn,a,cap,l⟩ hm hbig w ⟨b,o,hla,hlie⟩
  obtain⟨n,hn⟩:=nw (l.length)
  have HM:Hid (1+sizes l≤m+1):=hm
  have HG:Hid (1+sizes l≤1048576):=hbig
  have hnb:n≤1048576:=by
   have:l.length≤sizes l:=by
    clear hla hlie hn HM HG hm hbig ih
    induction l with
    | nil=>simp
    | cons e r ihr=>have:=size_pos e;simp only[List.length_cons,sizes];omega
   have:=HG.out
   omega
  clear hm hbig
  simp only[Ex.val,Ex.cells,Ex.depth,List.toArray]
  rw[←hn]
  have HN:=hid hn
  have HLA:Hid _:=hla
  have HLie:Hid _:=hlie
  have HIH:Hid _:=ih
  clear hn hla hlie ih
  go_enter Tryz.func43,Tryz.ntmps43
  go_wp2_with fail
  go_loopw [3,4] (fun s i wr=>∃k:Nat,k≤n∧i=.int .i64 k∧s=.int .i64 (deepest (l.take k):Nat)∧wr.cell? ⟨w.heap.size,5,none⟩=some (.slice a n cap)∧w.heap.size<wr.heap.size∧Hid (Below w.heap.size w wr)) (fun _ i _=>n-(intOf i).toNat)
  case atStart=>exact⟨0,by omega,rfl,by simp[deepest],by simp,by simp,bal _⟩
  case round =>
   obtain⟨k,hk,rfl,rfl,hbox,hsz,HB⟩:=hrel
   by_cases hlt:k<n
   ·have hkl:k<l.length:=by rw[←HN.out];exact hlt
    obtain rfl:=HLA.out (by intro h;rw[h] at hkl;simp at hkl)
    obtain⟨hc,hli⟩:=lieAt_get l o k HLie.out hkl
    have hs1:=sizes_at l k hkl
    have hs2:=sizes_take l (k+1)
    have hs3:=size_arg hkl
    have HS:=hid (deepest_at l k hkl)
    have hblk:b<w.heap.size:=by
     have h0:=hc 0 (by omega)
     cases hx:l[k]
     rw[hx] at h0
     exact World.block_lt_of_cell? w ⟨b,_,none⟩ h0
    have hcr:∀j,j<6→wr.cell? ⟨b,o+k*6+j,none⟩=l[k].cells[j]?:=fun j hj=>(HB.out.cell (p:=⟨b,o+k*6+j,none⟩) hblk).trans (hc j hj)
    have CC:=HIH.out l[k] (by have:=HM.out;omega) (by have:=HG.out;omega) wr (lies_below HB.out _ hli)
    have hbnd:deepest (l.take k)≤1048576∧l[k].depth≤1048576:=⟨by have:=deepest_le (l.take k);have:=sizes_take l k;have:=HG.out;omega,by have:=depth_le l[k];have:=HG.out;omega⟩
    generalize l[k]=x at hcr CC HS hbnd
    obtain⟨kd',pl',nm',it',dn',a',cap',l'⟩:=x
    have c0:wr.cell? ⟨b,o+k*6,none⟩=some (.int .u8 kd'):=hcr 0 (by omega)
    have c1:wr.cell? ⟨b,o+k*6+1,none⟩=some (.int .i64 pl'):=hcr 1 (by omega)
    have c2:wr.cell? ⟨b,o+k*6+2,none⟩=some (.string nm'):=hcr 2 (by omega)
    have c3:wr.cell? ⟨b,o+k*6+3,none⟩=some (.int .i64 it'):=hcr 3 (by omega)
    have c4:wr.cell? ⟨b,o+k*6+4,none⟩=some (.int .i64 dn'):=hcr 4 (by omega)
    have c5:wr.cell? ⟨b,o+k*6+5,none⟩=some (.slice a' l'.length cap'):=hcr 5 (by omega)
    simp only[Ex.val,Ex.cells,List.toArray] at CC
    generalize Ex.depth (.mk kd' pl' nm' it' dn' a' cap' l')=z at CC HS hbnd
    clear hc hcr hli hs1 hs2 hs3 hblk hkl
    go_wp2_with fail
    refine CC.mono ?_
    rintro e w2 ⟨rfl,hb2⟩
    have hbox2:w2.cell? ⟨w.heap.size,5,none⟩=some (.slice (some ⟨b,o,none⟩) n cap):=(hb2.cell (p:=⟨w.heap.size,5,none⟩) hsz).trans hbox
    have hsz2:w.heap.size<w2.heap.size:=by have:=hb2.size;omega
    have HB2:Hid (Below w.heap.size w w2):=HB.out.trans (hb2.mono (by omega))
    clear CC hb2 c0 c1 c2 c3 c4 c5 hbox hsz HB
    go_wp2_with fail
    go_roundw
    case rel=>exact⟨k+1,by omega,by go_num,by rw[HS.out];exact congrArg (Value.int .i64) (by split<;>omega),hbox2,hsz2,HB2⟩
    case measure=>simp[intOf];omega
   ·obtain rfl:k=n:=by omega
    have hst:deepest (l.take k)=deepest l:=by rw[HN.out,List.take_length]
    have HST:Hid _:=hst
    have hdl:deepest (l.take k)≤1048576:=by have:=deepest_le l;have:=HG.out;omega
    clear hst
    go_wp2_with fail
    go_ret
    exact⟨ret_nat (by rw[HST.out];omega),HB.out⟩
open Ex.bulk Ex.good
theorem size_bulk:∀e:Ex,e.size≤e.bulk
 | .mk _ _ _ _ _ _ _ l=>by
  have:=all l
  simp only[Ex.size,Ex.bulk]
  omega
where all:∀l:List Ex,sizes l≤bulks l
 | []=>by simp[sizes,bulks]
 | e::r=>by
  have h1:=size_bulk e
  have h2:=all r
  simp only[sizes,bulks]
  omega
theorem sizes_bulk(l:List Ex):sizes l≤bulks l:=size_bulk.all l
theorem bulk_arg{l:List Ex}{i:Nat}(h:i<l.length):l[i].bulk≤bulks l:=by
 induction l generalizing i with
 | nil=>simp at h
 | cons e r ih =>
  cases i with
  | zero=>simp[bulks]
  | succ i =>
   have:=ih (i:=i) (by simpa using h)
   simp only[bulks,List.getElem_cons_succ]
   omega
theorem len_sizes(l:List Ex):l.length≤sizes l:=by
 induction l with
 | nil=>simp
 | cons e r ih=>have:=size_pos e;simp only[List.length_cons,sizes];omega
end Go.Proofs.YthbgnpkgglbhjaaGreatDoor
namespace Go.Proofs.YthbgnpkgglbhjaaGreatDoor
open Go.RowKit
open Ex.size Ex.depth Ex.lies Ex.bulk Ex.good
structure Pm where
 nm:ByteArray
 ty:Int
 pl:Int
 rt:Bool
 pd:Int
 st:Int
 du:Int
def Pm.cells(p:Pm):List Value:=[.string p.nm,.int .u8 p.ty,.int .i64 p.pl,.bool p.rt,.int .i64 p.pd,.int .i64 p.st,.int .i64 p.du]
def Pm.val(p:Pm):Value:=.agg p.cells.toArray
structure Eqn where
 na:Option Addr
 nc:Nat
 ns:List ByteArray
 pq:Int
 e:Ex
def Eqn.cells(q:Eqn):List Value:=.slice q.na q.ns.length q.nc::.int .i64 q.pq::q.e.cells
def Eqn.val(q:Eqn):Value:=.agg q.cells.toArray
structure Nd where
 fl:Bool
 nm:ByteArray
 pl:Int
 ia:Option Addr
 ic:Nat
 ins:List Pm
 oa:Option Addr
 oc:Nat
 outs:List Pm
 va:Option Addr
 vc:Nat
 vars:List Pm
 qa:Option Addr
 qc:Nat
 eqs:List Eqn
def Nd.cells(n:Nd):List Value:=[.bool n.fl,.string n.nm,.int .i64 n.pl,.slice n.ia n.ins.length n.ic,.slice n.oa n.outs.length n.oc,.slice n.va n.vars.length n.vc,.slice n.qa n.eqs.length n.qc]
def Nd.val(n:Nd):Value:=.agg n.cells.toArray
def rowAt{α:Type}(f:α→List Value)(z:Nat)(w:World)(b o:Nat)(l:List α):Prop:=∀i (h:i<l.length) j,j<z→w.cell? ⟨b,o+i*z+j,none⟩=(f l[i])[j]?
def rowIn{α:Type}(f:α→List Value)(z:Nat)(w:World)(a:Option Addr)(l:List α):Prop:=l≠[]→∃b o,a=some ⟨b,o,none⟩∧b<w.heap.size∧rowAt f z w b o l
theorem rowIn_below{α:Type}{f:α→List Value}{z:Nat}{w w':World}{a:Option Addr}{l:List α}(h:rowIn f z w a l)(hb:Below w.heap.size w w'):rowIn f z w' a l:=fun hne=>by
 obtain⟨b,o,rfl,hlt,hr⟩:=h hne
 exact⟨b,o,rfl,Nat.lt_of_lt_of_le hlt hb.size,fun i hi j hj=>(hb.cell (p:=⟨b,_,none⟩) hlt).trans (hr i hi j hj)⟩
def textOf(s:ByteArray):List Value:=[.string s]
def Eqn.lies(w:World)(q:Eqn):Prop:=rowIn textOf 1 w q.na q.ns∧q.e.lies w
def Nd.lies(w:World)(n:Nd):Prop:=rowIn Pm.cells 7 w n.ia n.ins∧rowIn Pm.cells 7 w n.oa n.outs∧rowIn Pm.cells 7 w n.va n.vars∧rowIn Eqn.cells 8 w n.qa n.eqs∧∀q∈n.eqs,q.lies w
theorem Eqn.lies_below{w w':World}{q:Eqn}(h:q.lies w)(hb:Below w.heap.size w w'):q.lies w':=⟨rowIn_below h.1 hb,Go.Proofs.YthbgnpkgglbhjaaGreatDoor.lies_below hb _ h.2⟩
theorem Nd.lies_below{w w':World}{n:Nd}(h:n.lies w)(hb:Below w.heap.size w w'):n.lies w':=⟨rowIn_below h.1 hb,rowIn_below h.2.1 hb,rowIn_below h.2.2.1 hb,rowIn_below h.2.2.2.1 hb,fun q hq=>Eqn.lies_below (h.2.2.2.2 q hq) hb⟩
end Go.Proofs.YthbgnpkgglbhjaaGreatDoor
