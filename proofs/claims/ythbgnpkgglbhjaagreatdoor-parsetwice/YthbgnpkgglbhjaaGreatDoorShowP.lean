import Derived.Lib.ItoaNum
import Derived.Lib.Join
import Derived.Test.YthbgnpkgglbhjaaGreatDoorExSame
import Derived.Test.YthbgnpkgglbhjaaGreatDoorTreeMays
import Derived.Lib.ItoaLen
import Derived.OpenShut
import Derived.WalkKit
import Derived.Laws.IdiomStrings
namespace Go.Proofs.YthbgnpkgglbhjaaGreatDoor
open Go.RowKit
open Ex.size Ex.depth Ex.lies Ex.bulk Ex.good Ex.shape
def strong(k:Int):Int :=
 if k=20 then 0 else if k=21∨k=22 then 1 else if k=19 then 2 else if k=18 then 3 else if k=6 then 4 else if 12≤k∧k≤17 then 5 else if k=7∨k=8 then 6 else if 9≤k∧k≤11 then 7 else if k=5∨k=23 then 8 else if 24≤k then 9 else 10
def par(n:Int)(x:Int × List UInt8):List UInt8:=if strong x.1<n then 40::(x.2++[41]) else x.2
def signOf(k:Int):List UInt8 :=
 if k=7 then [32,43,32] else if k=8 then [32,45,32] else if k=9 then [32,42,32] else if k=10 then [32,47,32] else if k=11 then [32,37,32] else if k=12 then [32,61,32] else if k=13 then [32,60,62,32] else if k=14 then [32,60,32] else if k=15 then [32,60,61,32] else if k=16 then [32,62,32] else if k=17 then [32,62,61,32] else if k=18 then [32,97,110,100,32] else if k=19 then [32,111,114,32] else if k=21 then [32,102,98,121,32] else [32,58,58,32]
def firstOf(k:Int):Int:=if k=21∨k=22 then 2 else if 12≤k∧k≤17 then 6 else strong k
def secondOf(k:Int):Int:=if k=21∨k=22 then 1 else if 12≤k∧k≤17 then 6 else strong k+1
def rests(sep:List UInt8):List (List UInt8)→List UInt8
 | []=>[]
 | x::r=>sep++x++rests sep r
def between(sep:List UInt8):List (List UInt8)→List UInt8
 | []=>[]
 | x::r=>x++rests sep r
theorem rests_app(sep:List UInt8)(a b:List (List UInt8)):rests sep (a++b)=rests sep a++rests sep b:=by
 induction a with
 | nil=>rfl
 | cons x r ih=>simp only[List.cons_append,rests,ih,List.append_assoc]
theorem between_at(sep:List UInt8)(l:List (List UInt8))(k:Nat)(h:k<l.length):between sep (l.take (k+1))=between sep (l.take k)++(if 0<k then sep else [])++l[k]:=by
 rw[List.take_succ_eq_append_getElem h]
 cases hl:l.take k with
 | nil =>
  have:k=0:=by
   have:=congrArg List.length hl
   simp only[List.length_take,List.length_nil] at this
   omega
  subst this
  simp[between,rests]
 | cons x r =>
  have:0<k:=by
   rcases Nat.eq_zero_or_pos k with h0|h0
   ·subst h0;simp at hl
   ·exact h0
  simp only[List.cons_append,between,rests_app,rests,if_pos this,List.append_assoc,List.append_nil]
theorem rests_len(sep:List UInt8)(l:List (List UInt8))(m:Nat)(h:∀x∈l,x.length≤m):(rests sep l).length≤l.length*(sep.length+m):=by
 induction l with
 | nil=>simp[rests]
 | cons x r ih =>
  have h1:=h x (by simp)
  have h2:=ih fun y hy=>h y (by simp[hy])
  simp only[rests,List.length_append,List.length_cons,Nat.succ_mul]
  omega
def textBy(kd:Int)(nm:List UInt8)(it dn:Int)(a:List (Int × List UInt8)):List UInt8 :=
 if kd=1 then nm
 else if kd=2 then Lib.itoa it
 else if kd=3 then (if it=0 then [102,97,108,115,101] else [116,114,117,101])
 else if kd=4 then nm++[40]++between [44,32] (a.map (·.2))++[41]
 else if kd=5 then [45]++(if (a.getD 0 (0,[])).1=5 then [32] else [])++par 8 (a.getD 0 (0,[]))
 else if kd=23 then [116,97,105,108,32]++par 8 (a.getD 0 (0,[]))
 else if kd=6 then [110,111,116,32]++par 4 (a.getD 0 (0,[]))
 else if kd=20 then [105,102,32]++(a.getD 0 (0,[])).2++[32,116,104,101,110,32]++(a.getD 1 (0,[])).2++[32,101,108,115,101,32]++(a.getD 2 (0,[])).2
 else if kd=24 then par 9 (a.getD 0 (0,[]))++[32,42,94,32]++Lib.itoa it
 else if kd=25 then par 9 (a.getD 0 (0,[]))++[32,47,94,32]++Lib.itoa it
 else if kd=26 then par 9 (a.getD 0 (0,[]))++[32,126,62,32]++Lib.itoa it++[47]++Lib.itoa dn
 else par (firstOf kd) (a.getD 0 (0,[]))++signOf kd++par (secondOf kd) (a.getD 1 (0,[]))
def Ex.text:Ex→List UInt8
 | .mk kd _ nm it dn _ _ l=>textBy kd nm.data.toList it dn (texts l)
where texts:List Ex→List (Int × List UInt8)
 | []=>[]
 | e::r=>(e.kd,e.text)::texts r
open Ex.text
theorem texts_map(l:List Ex):(texts l).map (·.2)=l.map Ex.text:=by
 induction l with
 | nil=>rfl
 | cons e r ih=>simp only[texts,List.map_cons,ih]
def Pm.text(p:Pm):List UInt8 :=
 p.nm.data.toList++[58,32]++(if p.ty=2 then [98,111,111,108] else [105,110,116])++(if p.rt=true then [32,114,97,116,101,32,40]++Lib.itoa p.pd++[44,32]++Lib.itoa p.st++[41] else [])++(if 0<p.du then [32,100,117,101,32]++Lib.itoa p.du else [])
def leftOf(ns:List ByteArray):List UInt8:=if ns.length=1 then between [44,32] (ns.map (·.data.toList)) else [40]++between [44,32] (ns.map (·.data.toList))++[41]
def Eqn.text(q:Eqn):List UInt8:=[32,32]++leftOf q.ns++[32,61,32]++q.e.text++[59,10]
def pmsText(l:List Pm):List UInt8:=between [59,32] (l.map Pm.text)
def eqsText(l:List Eqn):List UInt8:=(l.map Eqn.text).flatten
def Nd.text(n:Nd):List UInt8 :=
 (if n.fl=true then [102,108,111,119,32] else [110,111,100,101,32])++n.nm.data.toList++[40]++pmsText n.ins++[41,32,114,101,116,117,114,110,115,32,40]++pmsText n.outs++[41,10]++(if n.vars=[] then [] else [118,97,114,32]++pmsText n.vars++[59,10])++[108,101,116,10]++eqsText n.eqs++[116,101,108,10]
def ndsText(l:List Nd):List UInt8:=(l.map Nd.text).flatten
end Go.Proofs.YthbgnpkgglbhjaaGreatDoor
namespace Go.Proofs.YthbgnpkgglbhjaaGreatDoor
open Go.RowKit
open Ex.size Ex.text Ex.shape Ex.same
def wordy(c:UInt8):Bool:=decide ((48≤c.toNat∧c.toNat≤57)∨(65≤c.toNat∧c.toNat≤90)∨(97≤c.toNat∧c.toNat≤122)∨c.toNat=95)
theorem num_dec(u:Nat):(Lib.decDigits u).foldl (fun a c=>a*10+(c.toNat-48)) 0=u:=by
 induction u using Nat.strongRecOn with
 | _ u ih =>
  rw[Lib.decDigits]
  split
  ·rename_i h
   have:(UInt8.ofNat (48+u)).toNat=48+u:=by simp;omega
   simp only[List.foldl_cons,List.foldl_nil,this]
   omega
  ·rename_i h
   have:(UInt8.ofNat (48+u % 10)).toNat=48+u % 10:=by simp;omega
   rw[List.foldl_append,ih (u / 10) (by omega)]
   simp only[List.foldl_cons,List.foldl_nil,this]
   omega
theorem dec_digit(u:Nat):∀c∈Lib.decDigits u,48≤c.toNat∧c.toNat≤57:=by
 induction u using Nat.strongRecOn with
 | _ u ih =>
  rw[Lib.decDigits]
  split
  ·rename_i h
   intro c hc
   rw[List.mem_singleton] at hc
   subst hc
   have:(UInt8.ofNat (48+u)).toNat=48+u:=by simp;omega
   omega
  ·rename_i h
   intro c hc
   rcases List.mem_append.1 hc with hc|hc
   ·exact ih (u / 10) (by omega) c hc
   ·rw[List.mem_singleton] at hc
    subst hc
    have:(UInt8.ofNat (48+u % 10)).toNat=48+u % 10:=by simp;omega
    omega
theorem dec_some(u:Nat):Lib.decDigits u≠[]:=by
 rw[Lib.decDigits]
 split<;>simp
theorem itoa_dec{n:Int}(h:0≤n):Lib.itoa n=Lib.decDigits n.toNat:=by rw[Lib.itoa,if_neg (by omega)]
def tailOf(k:Int):Int:=if k=20 then 0 else if k=21∨k=22 then 1 else if k=19 then 3 else if k=18 then 4 else if k=6 then 4 else if 12≤k∧k≤17 then 6 else if k=7∨k=8 then 7 else if 9≤k∧k≤11 then 8 else if k=5∨k=23 then 8 else 100
def isTwo(k:Int):Prop:=(7≤k∧k≤19)∨k=21∨k=22
theorem kinds_nat:∀k:Nat,k<27→strong k≤tailOf k∧(isTwo k→strong k≤firstOf k∧secondOf k=tailOf k∧strong k<9):=by
 have:∀k:Fin 27,strong (k.val:Int)≤tailOf (k.val:Int)∧(((7≤(k.val:Int)∧(k.val:Int)≤19)∨(k.val:Int)=21∨(k.val:Int)=22)→strong (k.val:Int)≤firstOf (k.val:Int)∧secondOf (k.val:Int)=tailOf (k.val:Int)∧strong (k.val:Int)<9):=by decide +kernel
 exact fun k hk=>this ⟨k,hk⟩
theorem two_nat:∀k:Nat,k<27→∀a:Nat,a<27→isTwo k→firstOf k≤strong a→strong k<tailOf a:=by
 have:∀k:Fin 27,∀a:Fin 27,(((7≤(k.val:Int)∧(k.val:Int)≤19)∨(k.val:Int)=21∨(k.val:Int)=22)→firstOf (k.val:Int)≤strong (a.val:Int)→strong (k.val:Int)<tailOf (a.val:Int)):=by decide +kernel
 exact fun k hk a ha=>this ⟨k,hk⟩ ⟨a,ha⟩
theorem nine_nat:∀a:Nat,a<27→9≤strong a→9<tailOf a:=by
 have:∀a:Fin 27,9≤strong (a.val:Int)→9<tailOf (a.val:Int):=by decide +kernel
 exact fun a ha=>this ⟨a,ha⟩
theorem args_range{kd:Int}{n:Nat}(h:argsOkB kd n=true):1≤kd∧kd≤26:=by
 simp only[argsOkB,decide_eq_true_eq] at h
 have hv:-1≤argsOf kd:=by omega
 unfold argsOf at hv
 repeat' split at hv
 all_goals omega
theorem kind_of{e:Ex}(h:e.shape=true):∃k:Nat,k<27∧e.kd=k∧1≤k:=by
 obtain⟨kd,pl,nm,it,dn,a,cap,l⟩:=e
 simp only[Ex.shape,Bool.and_eq_true] at h
 have h1:=args_range h.1.1.1.1
 refine⟨kd.toNat,by omega,?_,by omega⟩
 show kd=(kd.toNat:Int)
 omega
theorem strong_tail{e:Ex}(h:e.shape=true):strong e.kd≤tailOf e.kd:=by
 obtain⟨k,h1,h2,_⟩:=kind_of h
 rw[h2]
 exact(kinds_nat k h1).1
def Ex.nop:Ex→Ex
 | .mk kd _ nm it dn _ _ l=>.mk kd 0 nm it dn none 0 (nops l)
where nops:List Ex→List Ex
 | []=>[]
 | e::r=>e.nop::nops r
open Ex.nop
theorem bare_same:∀(e e':Ex),e.nop=e'.nop→e.same e'=true
 | .mk kd pl nm it dn a cap l,.mk kd' pl' nm' it' dn' a' cap' l',h=>by
  simp only[Ex.nop,Ex.mk.injEq] at h
  obtain⟨rfl,-,rfl,rfl,rfl,-,-,h⟩:=h
  have:=all l l' h
  simp[Ex.same,this.1,this.2]
where all:∀(l l':List Ex),nops l=nops l'→l.length=l'.length∧sames l l'=true
 | [],[],_=>⟨rfl,rfl⟩
 | [],e'::r',h=>by simp[nops] at h
 | e::r,[],h=>by simp[nops] at h
 | e::r,e'::r',h=>by
  simp only[nops,List.cons.injEq] at h
  have:=all r r' h.2
  simp[sames,bare_same e e' h.1,this.1,this.2]
theorem text_bare:∀e:Ex,e.nop.text=e.text∧e.nop.kd=e.kd
 | .mk kd pl nm it dn a cap l=>by
  simp only[Ex.nop,Ex.text,all l,and_self]
where all:∀l:List Ex,texts (nops l)=texts l
 | []=>rfl
 | e::r=>by simp only[nops,texts,text_bare e,all r]
theorem strong_pos(k:Int):0≤strong k:=by unfold strong;repeat' split;all_goals omega
theorem name_bytes{nm:ByteArray}(h:nameB nm=true):nm.data.toList≠[]∧(∀c∈nm.data.toList,wordy c=true)∧57<(nm.data.toList.headD 0).toNat∧nm.data.toList ∉ wordList:=by
 simp only[nameB,decide_eq_true_eq] at h
 obtain⟨h1,-,h2,h3,h4⟩:=h
 obtain⟨⟨l⟩⟩:=nm
 have hsz:(ByteArray.mk ⟨l⟩).size=l.length:=rfl
 have hby:∀j (hj:j<l.length),byteAt ⟨⟨l⟩⟩ j=(l[j].toNat:Int):=fun j hj=>by rw[byteAt,dif_pos (by rw[hsz];exact hj)];rfl
 rw[hsz] at h1 h4
 refine⟨fun e=>by simp only at e;rw[e] at h1;simp at h1,fun c hc=>?_,?_,?_⟩
 ·obtain⟨j,hj,rfl⟩:=List.getElem_of_mem hc
  simp only[plainB,decide_eq_true_eq] at h4
  have:=h4 j hj
  rw[hby j hj] at this
  simp only[letterB,digitB,decide_eq_true_eq] at this
  simp only[wordy,decide_eq_true_eq]
  omega
 ·rw[hby 0 h1] at h2
  simp only[letterB,decide_eq_true_eq] at h2
  cases l with
  | nil=>simp at h1
  | cons c l=>simp only[List.getElem_cons_zero] at h2;simp only[List.headD_cons];omega
 ·simpa [wordB] using h3
theorem no_name{nm:ByteArray}(h:nm.toList.isEmpty=true):nm=⟨#[]⟩:=by
 rw[ByteArray.toList_eq] at h
 obtain⟨⟨l⟩⟩:=nm
 have:l=[]:=by simpa using h
 rw[this]
theorem two_text{kd pl it dn:Int}{nm:ByteArray}{a:Option Addr}{cap:Nat}{x y:Ex}(hk:isTwo kd):Ex.text (.mk kd pl nm it dn a cap [x,y])=par (firstOf kd) (x.kd,x.text)++signOf kd++par (secondOf kd) (y.kd,y.text):=by
 unfold isTwo at hk
 rw[Ex.text,textBy,if_neg (by omega),if_neg (by omega),if_neg (by omega),if_neg (by omega),if_neg (by omega),if_neg (by omega),if_neg (by omega),if_neg (by omega),if_neg (by omega),if_neg (by omega),if_neg (by omega)]
 rfl
theorem if_head(p:Prop) [Decidable p]{a b:List UInt8}(ha:a.head?=some 32)(hb:b.head?=some 32):(if p then a else b).head?=some 32:=by
 by_cases h:p
 ·rw[if_pos h];exact ha
 ·rw[if_neg h];exact hb
theorem sign_head(kd:Int):(signOf kd).head?=some 32:=by
 unfold signOf
 repeat refine if_head _ rfl ?_
 rfl
theorem sign_first(kd:Int):∃t,signOf kd=32::t:=by
 have:=sign_head kd
 cases h:signOf kd with
 | nil=>rw[h] at this;cases this
 | cons c t =>
  rw[h,List.head?_cons,Option.some.injEq] at this
  subst this
  exact⟨t,rfl⟩
theorem par_first{k:Int}{kd:Int}{s:List UInt8}(h:∃c t,s=c::t∧c≠32):∃c t,par k (kd,s)=c::t∧c≠32:=by
 obtain⟨c,t,rfl,hc⟩:=h
 unfold par
 split
 ·exact⟨40,_,rfl,by decide⟩
 ·exact⟨c,t,rfl,hc⟩
theorem app_first{s r:List UInt8}(h:∃c t,s=c::t∧c≠32):∃c t,s++r=c::t∧c≠32:=by
 obtain⟨c,t,rfl,hc⟩:=h
 exact⟨c,t++r,rfl,hc⟩
theorem word_first{s:List UInt8}(h0:s≠[])(h:∀c∈s,wordy c=true):∃c t,s=c::t∧c≠32:=by
 cases s with
 | nil=>exact absurd rfl h0
 | cons c t=>exact⟨c,t,rfl,by rintro rfl;exact absurd (h 32 (by simp)) (by decide)⟩
theorem itoa_wordy{n:Int}(hn:0≤n):∀c∈Lib.itoa n,wordy c=true:=fun c hc=>by
 rw[itoa_dec hn] at hc
 have:=dec_digit _ c hc
 simp only[wordy,decide_eq_true_eq]
 omega
theorem itoa_some{n:Int}(hn:0≤n):Lib.itoa n≠[]:=by rw[itoa_dec hn];exact dec_some _
theorem text_1(pl it dn:Int)(nm:ByteArray)(a:Option Addr)(cap:Nat)(l:List Ex):Ex.text (.mk 1 pl nm it dn a cap l)=nm.data.toList:=rfl
theorem text_2(pl it dn:Int)(nm:ByteArray)(a:Option Addr)(cap:Nat)(l:List Ex):Ex.text (.mk 2 pl nm it dn a cap l)=Lib.itoa it:=rfl
theorem text_3(pl it dn:Int)(nm:ByteArray)(a:Option Addr)(cap:Nat)(l:List Ex):Ex.text (.mk 3 pl nm it dn a cap l)=if it=0 then [102,97,108,115,101] else [116,114,117,101]:=rfl
theorem text_4(pl it dn:Int)(nm:ByteArray)(a:Option Addr)(cap:Nat)(l:List Ex):Ex.text (.mk 4 pl nm it dn a cap l)=nm.data.toList++[40]++between [44,32] (l.map Ex.text)++[41]:=by rw[←texts_map];rfl
theorem text_5(pl it dn:Int)(nm:ByteArray)(a:Option Addr)(cap:Nat)(x:Ex):Ex.text (.mk 5 pl nm it dn a cap [x])=[45]++(if x.kd=5 then [32] else [])++par 8 (x.kd,x.text):=rfl
theorem text_first(m:Nat):∀e:Ex,e.size≤m→e.shape=true→∃c t,e.text=c::t∧c≠32:=by
 induction m with
 | zero=>intro e h;have:=size_pos e;omega
 | succ m ih =>
  rintro⟨kd,pl,nm,it,dn,a,cap,l⟩ hm h
  have hsub:∀x∈l,∃c t,x.text=c::t∧c≠32:=fun x hx=>by
   obtain⟨i,hi,rfl⟩:=List.getElem_of_mem hx
   have h1:=size_arg hi
   simp only[Ex.size] at hm
   have h2:(l[i]).shape=true:=by
    simp only[Ex.shape,Bool.and_eq_true] at h
    cases hq:(l[i]).shape
    ·have:=shapes_false l i hi hq
     rw[this] at h
     exact absurd h.2 (by decide)
    ·rfl
   exact ih _ (by omega) h2
  simp only[Ex.shape,Bool.and_eq_true] at h
  obtain⟨⟨⟨⟨ha,hnm⟩,hit⟩,hdn⟩,-⟩:=h
  obtain⟨r1,r2⟩:=args_range ha
  by_cases k1:kd=1
  ·subst k1
   obtain⟨n1,n2,-⟩:=name_bytes (by simpa [nameOkB] using hnm)
   exact word_first n1 n2
  by_cases k2:kd=2
  ·subst k2
   have hi:0≤it:=by simpa [intOkB] using hit
   exact word_first (itoa_some hi) (itoa_wordy hi)
  by_cases k3:kd=3
  ·subst k3
   rw[text_3]
   split<;>exact⟨_,_,rfl,by decide⟩
  by_cases k4:kd=4
  ·subst k4
   obtain⟨n1,n2,-⟩:=name_bytes (by simpa [nameOkB] using hnm)
   rw[text_4,List.append_assoc,List.append_assoc]
   exact app_first (word_first n1 n2)
  by_cases k5:kd=5
  ·subst k5;exact⟨45,_,rfl,by decide⟩
  by_cases k6:kd=6
  ·subst k6;exact⟨110,_,rfl,by decide⟩
  by_cases k23:kd=23
  ·subst k23;exact⟨116,_,rfl,by decide⟩
  by_cases k20:kd=20
  ·subst k20;exact⟨105,_,rfl,by decide⟩
  simp only[argsOkB,decide_eq_true_eq] at ha
  have hl:l≠[]:=by
   rintro rfl
   simp only[List.length_nil] at ha
   have:argsOf kd=0:=by omega
   unfold argsOf at this
   repeat' split at this
   all_goals omega
  obtain⟨x,l,rfl⟩:∃x r,l=x::r:=by cases l with|nil=>exact absurd rfl hl|cons x r=>exact⟨x,r,rfl⟩
  have hx:=hsub x (by simp)
  have hp:∀k s,∃c t,par k (x.kd,x.text)++s=c::t∧c≠32:=fun k s=>app_first (par_first hx)
  have hg:(texts (x::l)).getD 0 (0,[])=(x.kd,x.text):=rfl
  rw[Ex.text,textBy,if_neg k1,if_neg k2,if_neg k3,if_neg k4,if_neg k5,if_neg k23,if_neg k6,if_neg k20,hg]
  split
  ·rw[List.append_assoc];exact hp _ _
  split
  ·rw[List.append_assoc];exact hp _ _
  split
  ·rw[List.append_assoc,List.append_assoc,List.append_assoc];exact hp _ _
  ·rw[List.append_assoc];exact hp _ _
end Go.Proofs.YthbgnpkgglbhjaaGreatDoor
namespace Go.Proofs.YthbgnpkgglbhjaaGreatDoor
open Go.RowKit
open Ex.size Ex.depth Ex.lies Ex.bulk Ex.good Ex.shape Ex.text
theorem between_len(sep:List UInt8)(l:List (List UInt8))(m:Nat)(h:∀x∈l,x.length≤m):(between sep l).length≤l.length*(sep.length+m):=by
 cases l with
 | nil=>simp[between]
 | cons x r =>
  have h1:=h x (by simp)
  have h2:=rests_len sep r m fun y hy=>h y (by simp[hy])
  simp only[between,List.length_append,List.length_cons,Nat.succ_mul]
  omega
theorem between_sum(sep:List UInt8)(l:List (List UInt8)):(between sep l).length≤l.length*sep.length+(l.map List.length).sum:=by
 have hr:∀l:List (List UInt8),(rests sep l).length=l.length*sep.length+(l.map List.length).sum:=fun l=>by
  induction l with
  | nil=>simp[rests]
  | cons x r ih=>simp only[rests,List.length_append,List.length_cons,List.map_cons,List.sum_cons,ih,Nat.succ_mul];omega
 cases l with
 | nil=>simp[between]
 | cons x r =>
  have:=hr r
  simp only[between,List.length_append,List.length_cons,List.map_cons,List.sum_cons,this,Nat.succ_mul]
  omega
theorem par_len(n kd:Int)(s:List UInt8):(par n (kd,s)).length≤s.length+2:=by
 unfold par
 split
 ·simp
 ·simp
theorem name_len{nm:ByteArray}(h:nameB nm=true):nm.data.toList.length≤32:=by
 simp only[nameB,decide_eq_true_eq] at h
 have:nm.data.toList.length=nm.size:=by simp
 omega
theorem sign_len(k:Int):(signOf k).length≤5:=by
 have hi:∀(p:Prop) [Decidable p]{a b:List UInt8},a.length≤5→b.length≤5→(if p then a else b).length≤5:=fun p _ a b ha hb=>by
  by_cases h:p
  ·rw[if_pos h];exact ha
  ·rw[if_neg h];exact hb
 unfold signOf
 repeat refine hi _ (by decide) ?_
 decide
theorem itoa_len{n:Int}(h:(Lit.int .i64 n).wf=true):(Lib.itoa n).length≤21:=Lib.itoa_length_le n (bounds_i64 h).1 (bounds_i64 h).2
theorem texts_sum(l:List Ex)(h:∀x∈l,x.text.length≤100*x.size):((l.map Ex.text).map List.length).sum≤100*sizes l:=by
 induction l with
 | nil=>simp[sizes]
 | cons e r ih =>
  have h1:=h e (by simp)
  have h2:=ih fun x hx=>h x (by simp[hx])
  simp only[List.map_cons,List.sum_cons,sizes]
  omega
theorem text_len(m:Nat):∀e:Ex,e.size≤m→e.shape=true→e.good→e.text.length≤100*e.size:=by
 induction m with
 | zero=>intro e h;have:=size_pos e;omega
 | succ m ih =>
  rintro⟨kd,pl,nm,it,dn,a,cap,l⟩ hm h hg
  have hsub:∀x∈l,x.text.length≤100*x.size:=fun x hx=>by
   obtain⟨i,hi,rfl⟩:=List.getElem_of_mem hx
   have h1:=size_arg hi
   simp only[Ex.size] at hm
   have h2:(l[i]).shape=true:=by
    simp only[Ex.shape,Bool.and_eq_true] at h
    cases hq:(l[i]).shape
    ·have:=shapes_false l i hi hq
     rw[this] at h
     exact absurd h.2 (by decide)
    ·rfl
   exact ih _ (by omega) h2 (goods_get hg.2 hi)
  have hi:=itoa_len hg.1.2.2.2.1
  have hd:=itoa_len hg.1.2.2.2.2.1
  simp only[Ex.shape,Bool.and_eq_true] at h
  obtain⟨⟨⟨⟨ha,hnm⟩,hit⟩,hdn⟩,-⟩:=h
  obtain⟨r1,r2⟩:=args_range ha
  simp only[argsOkB,decide_eq_true_eq] at ha
  have two:∀{l:List Ex},l.length=2→∃x y,l=[x,y]:=fun {l} h=>by
   match l,h with
   | [x,y],_=>exact⟨x,y,rfl⟩
  have lone:∀{l:List Ex},l.length=1→∃x,l=[x]:=fun {l} h=>by
   match l,h with
   | [x],_=>exact⟨x,rfl⟩
  by_cases k1:kd=1
  ·subst k1
   have:=name_len (nm:=nm) (by simpa [nameOkB] using hnm)
   rw[text_1]
   simp only[Ex.size]
   omega
  by_cases k2:kd=2
  ·subst k2
   rw[text_2]
   simp only[Ex.size]
   omega
  by_cases k3:kd=3
  ·subst k3
   rw[text_3]
   simp only[Ex.size]
   split
   ·simp only[lC,lN];omega
   ·simp only[lC,lN];omega
  by_cases k4:kd=4
  ·subst k4
   have h1:=name_len (nm:=nm) (by simpa [nameOkB] using hnm)
   have h2:=between_sum [44,32] (l.map Ex.text)
   have h3:=texts_sum l hsub
   have h4:l.length≤32:=by simp[argsOf] at ha;omega
   rw[text_4]
   simp only[Ex.size,List.length_append,List.length_cons,List.length_nil,List.length_map] at *
   omega
  have one:∀x,l=[x]→x.text.length≤100*x.size:=fun x hx=>hsub x (by rw[hx];simp)
  by_cases k5:kd=5
  ·subst k5
   obtain⟨x,rfl⟩:=lone (l:=l) (by simp[argsOf] at ha;omega)
   have h1:=one x rfl
   have h2:=par_len 8 x.kd x.text
   rw[text_5]
   have h3:(if x.kd=5 then ([32]:List UInt8) else []).length≤1:=by split<;>simp
   simp only[Ex.size,sizes,List.length_append,List.length_cons,List.length_nil]
   omega
  by_cases k6:kd=6
  ·subst k6
   obtain⟨x,rfl⟩:=lone (l:=l) (by simp[argsOf] at ha;omega)
   have h1:=one x rfl
   have h2:=par_len 4 x.kd x.text
   have e1:Ex.text (.mk 6 pl nm it dn a cap [x])=[110,111,116,32]++par 4 (x.kd,x.text):=rfl
   rw[e1]
   simp only[Ex.size,sizes,List.length_append,List.length_cons,List.length_nil]
   omega
  by_cases k23:kd=23
  ·subst k23
   obtain⟨x,rfl⟩:=lone (l:=l) (by simp[argsOf] at ha;omega)
   have h1:=one x rfl
   have h2:=par_len 8 x.kd x.text
   have e1:Ex.text (.mk 23 pl nm it dn a cap [x])=[116,97,105,108,32]++par 8 (x.kd,x.text):=rfl
   rw[e1]
   simp only[Ex.size,sizes,List.length_append,List.length_cons,List.length_nil]
   omega
  by_cases k20:kd=20
  ·subst k20
   obtain⟨x,y,z,rfl⟩:∃x y z,l=[x,y,z]:=by
    have h3:l.length=3:=by simp[argsOf] at ha;omega
    match l,h3 with
    | [x,y,z],_=>exact⟨x,y,z,rfl⟩
   have h1:=hsub x (by simp)
   have h2:=hsub y (by simp)
   have h3:=hsub z (by simp)
   have e1:Ex.text (.mk 20 pl nm it dn a cap [x,y,z])=[105,102,32]++x.text++[32,116,104,101,110,32]++y.text++[32,101,108,115,101,32]++z.text:=rfl
   rw[e1]
   simp only[Ex.size,sizes,List.length_append,List.length_cons,List.length_nil]
   omega
  by_cases k24:kd=24
  ·subst k24
   obtain⟨x,rfl⟩:=lone (l:=l) (by simp[argsOf] at ha;omega)
   have h1:=one x rfl
   have h2:=par_len 9 x.kd x.text
   have e1:Ex.text (.mk 24 pl nm it dn a cap [x])=par 9 (x.kd,x.text)++[32,42,94,32]++Lib.itoa it:=rfl
   rw[e1]
   simp only[Ex.size,sizes,List.length_append,List.length_cons,List.length_nil]
   omega
  by_cases k25:kd=25
  ·subst k25
   obtain⟨x,rfl⟩:=lone (l:=l) (by simp[argsOf] at ha;omega)
   have h1:=one x rfl
   have h2:=par_len 9 x.kd x.text
   have e1:Ex.text (.mk 25 pl nm it dn a cap [x])=par 9 (x.kd,x.text)++[32,47,94,32]++Lib.itoa it:=rfl
   rw[e1]
   simp only[Ex.size,sizes,List.length_append,List.length_cons,List.length_nil]
   omega
  by_cases k26:kd=26
  ·subst k26
   obtain⟨x,rfl⟩:=lone (l:=l) (by simp[argsOf] at ha;omega)
   have h1:=one x rfl
   have h2:=par_len 9 x.kd x.text
   have e1:Ex.text (.mk 26 pl nm it dn a cap [x])=par 9 (x.kd,x.text)++[32,126,62,32]++Lib.itoa it++[47]++Lib.itoa dn:=rfl
   rw[e1]
   simp only[Ex.size,sizes,List.length_append,List.length_cons,List.length_nil]
   omega
  have hk:isTwo kd:=by unfold isTwo;omega
  have h2:argsOf kd=2:=by unfold isTwo at hk;unfold argsOf;rw[if_neg (by omega),if_neg (by omega),if_neg (by omega),if_pos hk]
  obtain⟨x,y,rfl⟩:=two (l:=l) (by rw[h2] at ha;omega)
  have h1:=hsub x (by simp)
  have h3:=hsub y (by simp)
  have h4:=par_len (firstOf kd) x.kd x.text
  have h5:=par_len (secondOf kd) y.kd y.text
  have h6:=sign_len kd
  rw[two_text hk]
  simp only[Ex.size,sizes,List.length_append]
  omega
theorem cell_of_row{w:World}{k:Nat}{c:Array Value}{T:TypeId}(h:w.heap[k]?=some (.cells c T (0,0)))(j:Nat):w.cell? ⟨k,j,none⟩=c[j]?:=by
 simp[World.cell?,h]
theorem heap_at{w:World}{o:Obj}{k:Nat}(h:k=w.heap.size):(w.alloc o).heap[k]?=some o:=by
 subst h
 exact Array.getElem?_push_size
theorem num_range{n:Int}(h:(Lit.int .i64 n).wf=true):-9223372036854775808≤n∧n≤9223372036854775807:=bounds_i64 h
theorem between_prefix(sep:List UInt8)(l:List (List UInt8))(k:Nat):∃u,between sep l=between sep (l.take k)++u:=by
 cases l with
 | nil=>exact⟨[],by simp[between]⟩
 | cons x r =>
  cases k with
  | zero=>exact⟨between sep (x::r),by simp[between]⟩
  | succ k =>
   refine⟨rests sep (r.drop k),?_⟩
   rw[List.take_succ_cons,between,between,List.append_assoc,←rests_app,List.take_append_drop]
theorem good_arg{kd pl it dn:Int}{nm:ByteArray}{a:Option Addr}{cap:Nat}{l:List Ex}(h:Ex.good (.mk kd pl nm it dn a cap l)){i:Nat}(hi:i<l.length):(l[i]).good:=goods_get h.2 hi
theorem kd_range{e:Ex}(h:e.shape=true):1≤e.kd∧e.kd≤26:=by
 obtain⟨k,h1,h2,h3⟩:=kind_of h
 rw[h2]
 omega
theorem shape_arg{kd pl it dn:Int}{nm:ByteArray}{a:Option Addr}{cap:Nat}{l:List Ex}(h:Ex.shape (.mk kd pl nm it dn a cap l)=true){i:Nat}(hi:i<l.length):(l[i]).shape=true:=by
 simp only[Ex.shape,Bool.and_eq_true] at h
 cases hq:(l[i]).shape
 ·have:=shapes_false l i hi hq
  rw[this] at h
  exact absurd h.2 (by decide)
 ·rfl
theorem args_lie{W:World}{kd pl it dn:Int}{nm:ByteArray}{a:Option Addr}{cap:Nat}{l:List Ex}(h:Ex.lies W (.mk kd pl nm it dn a cap l))(h0:l≠[]):∃bA oA,a=some ⟨bA,oA,none⟩∧bA<W.heap.size∧∀i (hi:i<l.length),(∀j,j<6→W.cell? ⟨bA,oA+i*6+j,none⟩=l[i].cells[j]?)∧l[i].lies W:=by
 obtain⟨bA,oA,h1,h2⟩:=h
 obtain rfl:=h1 h0
 refine⟨bA,oA,rfl,?_,fun i hi=>lieAt_get l oA i h2 hi⟩
 have hl:0<l.length:=List.length_pos_iff.2 h0
 have h3:=(lieAt_get l oA 0 h2 hl).1 0 (by omega)
 cases hx:l[0]
 rw[hx] at h3
 exact World.block_lt_of_cell? W ⟨bA,_,none⟩ h3
theorem old_cells{W w:World}{b o n:Nat}{c:List Value}(h:Below W.heap.size W w)(hb:b<W.heap.size)(hc:∀j,j<n→W.cell? ⟨b,o+j,none⟩=c[j]?):∀j,j<n→w.cell? ⟨b,o+j,none⟩=c[j]?:=fun j hj=>(h.cell (p:=⟨b,o+j,none⟩) hb).trans (hc j hj)
def outOf(t:List UInt8):ByteArray × Int:=if 65536<t.length then (⟨#[]⟩,4) else (⟨t.toArray⟩,0)
def Pm.wf(p:Pm):Prop:=(Lit.int .i64 p.pd).wf=true∧(Lit.int .i64 p.st).wf=true∧(Lit.int .i64 p.du).wf=true
def kindText(t:Int):List UInt8:=if t=2 then [98,111,111,108] else [105,110,116]
def rateText(r:Bool)(p s:Int):List UInt8:=if r=true then [32,114,97,116,101,32,40]++(Lib.itoa p++([44,32]++(Lib.itoa s++[41]))) else []
def dueText(d:Int):List UInt8:=if 0<d then [32,100,117,101,32]++Lib.itoa d else []
theorem pm_text(p:Pm):p.text=(p.nm.data.toList++([58,32]++kindText p.ty))++(rateText p.rt p.pd p.st++dueText p.du):=by
 unfold Pm.text kindText rateText dueText
 simp only[List.append_assoc]
theorem names_row{w:World}{a:Option Addr}{ns:List ByteArray}(h:rowIn textOf 1 w a ns)(h0:ns≠[]):∃b o,a=some ⟨b,o,none⟩∧b<w.heap.size∧∀i (hi:i<ns.length),w.cell? ⟨b,o+i,none⟩=some (.string ns[i]):=by
 obtain⟨b,o,rfl,h1,h2⟩:=h h0
 refine⟨b,o,rfl,h1,fun i hi=>?_⟩
 have:=h2 i hi 0 (by omega)
 simpa [textOf] using this
theorem add_text(W:World)(a b:List UInt8)(h:a.length+b.length≤140737488355328):(Op.stringOp .add ⟨a.toArray⟩ ⟨b.toArray⟩).run Tryz.prog W=.ok (.string ⟨(a++b).toArray⟩) W:=by
 have:=run_string_add_sum (P:=Tryz.prog) W ⟨a.toArray⟩ ⟨b.toArray⟩ (by
  have h1:(ByteArray.mk a.toArray).size=a.length:=rfl
  have h2:(ByteArray.mk b.toArray).size=b.length:=rfl
  omega)
 rw[this]
 congr 2
theorem flat_at2(l:List (List UInt8))(k:Nat)(h:k<l.length):(l.take (k+1)).flatten=(l.take k).flatten++l[k]:=by
 rw[List.take_succ_eq_append_getElem h,List.flatten_append]
 simp only[List.flatten_cons,List.flatten_nil,List.append_nil]
theorem eqn_text(q:Eqn):q.text=([32,32]++(leftOf q.ns++[32,61,32]))++(q.e.text++[59,10]):=by
 unfold Eqn.text
 simp only[List.append_assoc]
def Nd.nums(n:Nd):Prop:=(∀p∈n.ins,p.wf)∧(∀p∈n.outs,p.wf)∧(∀p∈n.vars,p.wf)∧∀q∈n.eqs,q.ns.length≤q.nc
theorem pms_types{rate due:Bool}{l:List Pm}(h:l.all (pmsB rate due)=true):∀p∈l,p.ty=1∨p.ty=2:=fun p hp=>by
 have:=List.all_eq_true.1 h p hp
 simp only[pmsB,pmB,pmNums,Bool.and_eq_true,Bool.or_eq_true,beq_iff_eq] at this
 exact this.1.1.2.1.1
theorem pms_names{rate due:Bool}{l:List Pm}(h:l.all (pmsB rate due)=true):∀p∈l,nameB p.nm=true:=fun p hp=>by
 have:=List.all_eq_true.1 h p hp
 simp only[pmsB,pmB,Bool.and_eq_true] at this
 exact this.1.1.1
theorem pm_len{p:Pm}(hn:nameB p.nm=true)(hw:p.wf):p.text.length≤120:=by
 have h1:=name_len hn
 have h2:=itoa_len hw.1
 have h3:=itoa_len hw.2.1
 have h4:=itoa_len hw.2.2
 rw[pm_text]
 have e1:(kindText p.ty).length≤4:=by unfold kindText;split<;>simp
 have e2:(rateText p.rt p.pd p.st).length≤53:=by
  unfold rateText
  split
  ·simp only[List.length_append,List.length_cons,List.length_nil];omega
  ·simp
 have e3:(dueText p.du).length≤26:=by
  unfold dueText
  split
  ·simp only[List.length_append,List.length_cons,List.length_nil];omega
  ·simp
 simp only[List.length_append,List.length_cons,List.length_nil]
 omega
theorem pms_len{l:List Pm}(h:∀p∈l,nameB p.nm=true∧p.wf)(hl:l.length≤32):(pmsText l).length≤3904:=by
 have:=between_len [59,32] (l.map Pm.text) 120 fun x hx=>by
  obtain⟨p,hp,rfl⟩:=List.mem_map.1 hx
  exact pm_len (h p hp).1 (h p hp).2
 simp only[List.length_map,List.length_cons,List.length_nil] at this
 have h2:l.length*(0+1+1+120)≤32*(0+1+1+120):=Nat.mul_le_mul_right _ hl
 unfold pmsText
 omega
theorem left_len{ns:List ByteArray}(h:∀s∈ns,nameB s=true)(hl:ns.length≤32):(leftOf ns).length≤1090:=by
 have:=between_len [44,32] (ns.map (·.data.toList)) 32 fun x hx=>by
  obtain⟨p,hp,rfl⟩:=List.mem_map.1 hx
  exact name_len (h p hp)
 simp only[List.length_map,List.length_cons,List.length_nil] at this
 have h2:ns.length*(0+1+1+32)≤32*(0+1+1+32):=Nat.mul_le_mul_right _ hl
 unfold leftOf
 split
 ·omega
 ·simp only[List.length_append,List.length_cons,List.length_nil];omega
theorem eqs_len{l:List Eqn}(h:∀q∈l,eqB q=true∧q.e.good):(eqsText l).length≤l.length*1097+100*eqSizes l:=by
 induction l with
 | nil=>simp[eqsText]
 | cons q r ih =>
  have h1:=ih fun x hx=>h x (by simp[hx])
  obtain⟨e1,hg⟩:=h q (by simp)
  simp only[eqB,Bool.and_eq_true,decide_eq_true_eq] at e1
  obtain⟨⟨⟨e2,e3⟩,e4⟩,e5⟩:=e1
  have h2:=left_len (fun s hs=>List.all_eq_true.1 e4 s hs) e3
  have h3:=text_len _ q.e (Nat.le_refl _) e5 hg
  have e6:eqsText (q::r)=q.text++eqsText r:=by simp[eqsText]
  rw[e6,eqn_text]
  simp only[List.length_append,List.length_cons,List.length_nil,eqSizes]
  omega
theorem nd_len{n:Nd}(hf:fewB n=true)(hb:ndB n=true)(hm:n.nums)(hg:n.good):n.text.length≤153000+100*eqSizes n.eqs:=by
 simp only[fewB,decide_eq_true_eq] at hf
 obtain⟨f1,f2,f3,f4⟩:=hf
 simp only[ndB,Bool.and_eq_true] at hb
 obtain⟨⟨b0,⟨b1,b2⟩,b3⟩,b4⟩:=hb
 have h0:=name_len b0
 have h1:=pms_len (fun p hp=>⟨pms_names b1 p hp,hm.1 p hp⟩) f1
 have h2:=pms_len (fun p hp=>⟨pms_names b2 p hp,hm.2.1 p hp⟩) f2
 have h3:=pms_len (fun p hp=>⟨pms_names b3 p hp,hm.2.2.1 p hp⟩) f3
 have h4:=eqs_len fun q hq=>⟨List.all_eq_true.1 b4 q hq,(hg.2.2.2.2.2.2.2.2 q hq).2.2.1⟩
 unfold Nd.text
 have e1:(if n.fl=true then ([102,108,111,119,32]:List UInt8) else [110,111,100,101,32]).length=5:=by split<;>rfl
 have e2:(if n.vars=[] then ([]:List UInt8) else [118,97,114,32]++pmsText n.vars++[59,10]).length≤3910:=by
  split
  ·simp
  ·simp only[List.length_append,List.length_cons,List.length_nil];omega
 simp only[List.length_append,List.length_cons,List.length_nil]
 omega
theorem nds_len{l:List Nd}(h:∀n∈l,fewB n=true∧ndB n=true∧n.nums∧n.good):(ndsText l).length≤l.length*153000+100*ndSizes l:=by
 induction l with
 | nil=>simp[ndsText]
 | cons n r ih =>
  have h1:=ih fun x hx=>h x (by simp[hx])
  obtain⟨f,b,m,g⟩:=h n (by simp)
  have h2:=nd_len f b m g
  have e6:ndsText (n::r)=n.text++ndsText r:=by simp[ndsText]
  rw[e6]
  simp only[List.length_append,List.length_cons,ndSizes]
  omega
theorem may_ok{l:List Nd}(h:mayOf l=0):l.length≤64∧ndSizes l≤4096∧∀n∈l,fewB n=true∧ndB n=true:=by
 unfold mayOf at h
 split at h
 ·exact absurd h (by decide)
 split at h
 ·exact absurd h (by decide)
 split at h
 ·exact absurd h (by decide)
 split at h
 ·exact absurd h (by decide)
 rename_i h1 h2 h3 h4
 have h1':(decide (l.length≤64)&&l.all fewB)=true:=by simpa using h1
 have h2':l.all ndB=true:=by simpa using h2
 simp only[Bool.and_eq_true,decide_eq_true_eq] at h1'
 exact⟨h1'.1,by omega,fun n hn=>⟨List.all_eq_true.1 h1'.2 n hn,List.all_eq_true.1 h2' n hn⟩⟩
def progOut(l:List Nd):ByteArray × Int:=if mayOf l=0 then outOf (ndsText l) else (⟨#[]⟩,mayOf l)
end Go.Proofs.YthbgnpkgglbhjaaGreatDoor
