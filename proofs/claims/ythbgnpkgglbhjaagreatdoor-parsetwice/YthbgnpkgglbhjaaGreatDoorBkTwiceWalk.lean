import Derived.Test.YthbgnpkgglbhjaaGreatDoorBkBackWalk
namespace Go.Proofs.YthbgnpkgglbhjaaGreatDoor
open Go.RowKit
open Ex.size Ex.depth Ex.lies Ex.bulk Ex.good Ex.shape Ex.text Ex.same Ex.bare Ex.toks
theorem toks_nop:∀e:Ex,e.nop.toks=e.toks∧e.nop.kd=e.kd
 | .mk kd pl nm it dn a cap l=>by
  simp only[Ex.nop,Ex.toks,all l,and_self]
where all:∀l:List Ex,tokss (Ex.nop.nops l)=tokss l
 | []=>rfl
 | e::r=>by simp only[Ex.nop.nops,tokss,toks_nop e,all r]
theorem pms_nops(l:List Pm):pmsText (l.map Pm.nop)=pmsText l∧pmsToks (l.map Pm.nop)=pmsToks l:=by
 unfold pmsText pmsToks
 rw[List.map_map,List.map_map]
 exact⟨rfl,rfl⟩
theorem eqs_nops(l:List Eqn):eqsText (l.map Eqn.nop)=eqsText l∧eqsToks (l.map Eqn.nop)=eqsToks l:=by
 unfold eqsText eqsToks
 rw[List.map_map,List.map_map]
 constructor
 ·congr 1
  refine List.map_congr_left fun q _=>?_
  simp only[Function.comp,Eqn.nop,Eqn.text,(text_bare q.e).1]
 ·congr 1
  refine List.map_congr_left fun q _=>?_
  simp only[Function.comp,Eqn.nop,Eqn.toks,(toks_nop q.e).1]
theorem ite_map{α:Type}(l:List Pm)(x y:α):(if l.map Pm.nop=[] then x else y)=if l=[] then x else y:=by
 cases l<;>rfl
theorem nd_nops(n:Nd):n.nop.text=n.text∧n.nop.toks=n.toks:=by
 have e:n.nop.fl=n.fl∧n.nop.nm=n.nm∧n.nop.ins=n.ins.map Pm.nop∧n.nop.outs=n.outs.map Pm.nop∧n.nop.vars=n.vars.map Pm.nop∧n.nop.eqs=n.eqs.map Eqn.nop:=⟨rfl,rfl,rfl,rfl,rfl,rfl⟩
 obtain⟨e1,e2,e3,e4,e5,e6⟩:=e
 unfold Nd.text Nd.toks varsToks
 rw[e1,e2,e3,e4,e5,e6,(pms_nops n.ins).1,(pms_nops n.outs).1,(pms_nops n.vars).1,(eqs_nops n.eqs).1,(pms_nops n.ins).2,(pms_nops n.outs).2,(pms_nops n.vars).2,(eqs_nops n.eqs).2,ite_map,ite_map]
 exact⟨rfl,rfl⟩
theorem nds_nops(l:List Nd):ndsText (l.map Nd.nop)=ndsText l∧ndsToks (l.map Nd.nop)=ndsToks l:=by
 unfold ndsText ndsToks
 rw[List.map_map,List.map_map]
 constructor
 ·congr 1
  exact List.map_congr_left fun n _=>(nd_nops n).1
 ·congr 1
  exact List.map_congr_left fun n _=>(nd_nops n).2
theorem twice_facts{base:Nat}{w1:World}{src:ByteArray}{l:List Nd}{v:Value}(hs:src.size≤4096)(h:progT src=.ok l)(hI:IsPr base w1 l v) :
  ∃(xs:List Nd)(a:Option Addr)(cap:Nat)(t:ByteArray),v=.agg #[.slice a xs.length cap]∧Lie w1 a xs∧Goods xs∧(∀x∈xs,x.nums)∧progOut xs=(t,0)∧t.size≤65536∧∃l',progT t=.ok l'∧l'.map Nd.nop=xs.map Nd.nop:=by
 obtain⟨xs,a,cap,rfl,rfl,hrow⟩:=hI
 obtain⟨h1,h2⟩:=row_prog hrow (by rw[←ndBulks_bare];exact prog_bulk h)
 have hm:mayOf xs=0:=by rw[←may_bare];exact read_may h
 have hn:∀x∈xs,x.nums:=fun x hx=>by
  obtain⟨r1,r2,r3,r4,-⟩:=hrow.2.2.2.2 x hx
  exact⟨fun p hp=>(r1.2.2.2.2 p hp).2.2.2,fun p hp=>(r2.2.2.2.2 p hp).2.2.2,fun p hp=>(r3.2.2.2.2 p hp).2.2.2,fun q hq=>(r4.2.2.2.2 q hq).1.1⟩
 obtain⟨k1,k2⟩:=read_len h
 have e1:ndsText (xs.map Nd.bare)=ndsText xs:=by rw[←(nds_nops (xs.map Nd.bare)).1,nds_bare_nop,(nds_nops xs).1]
 have e2:ndsToks (xs.map Nd.bare)=ndsToks xs:=by rw[←(nds_nops (xs.map Nd.bare)).2,nds_bare_nop,(nds_nops xs).2]
 rw[e1] at k1
 rw[e2] at k2
 have ho:progOut xs=(⟨(ndsText xs).toArray⟩,0):=by
  unfold progOut outOf
  rw[if_pos hm,if_neg (by omega)]
 have hz:(ByteArray.mk (ndsText xs).toArray).size=(ndsText xs).length:=rfl
 obtain⟨-,-,hb⟩:=may_ok hm
 have hx:=(nds_lex (l:=xs) fun n hn'=>⟨(hb n hn').2,hn n hn',h2.1 n hn'⟩).mono (C2:=Brk) fun _ _=>trivial
 have hlex:=lex_few hx (s:=⟨(ndsText xs).toArray⟩) rfl (by omega) (by omega)
 exact⟨xs,a,cap,_,rfl,h1,h2,hn,ho,by omega,program_back hm (fun n hn'=>⟨hn n hn',h2.1 n hn'⟩) rfl hlex⟩
set_option maxRecDepth 100000 in
set_option maxHeartbeats 12800000 in
theorem twice_walk(s:ByteArray)(w:World)(hr:RangeVar w)(ht:HasTab w)(hg:w.cell? ⟨0,0,none⟩=some (.iface 131 (.agg #[.pointer (some ⟨7,40,none⟩)]))) :
  Calls Tryz.prog 4 #[.string s] w fun x w'=>x=.returned (.bool true)∧Below w.heap.size w w':=by
 have HA:=hid (rd_alive w hr ht hg)
 have HPP:Hid (∀(t:ByteArray) W,t.size≤65536→Below w.heap.size w W→Calls Tryz.prog 12 #[.string t] W (ReadPost W (progT t))):=fun t W h1 h2=>program_calls t W (by omega) (hr.below h2) (ht.below h2) ((h2.cell (p:=⟨0,0,none⟩) (World.block_lt_of_cell? w ⟨0,0,none⟩ hg)).trans hg)
 clear hr ht hg
 by_cases hz:4096<s.size
 ·have hz2:(4096:Int)<(s.size:Int):=by omega
  have CA:=HA.out w (Below.refl _ _)
  clear HPP
  go_enter Tryz.func4,Tryz.ntmps4
  go_wp2_with fail
  refine CA.mono ?_
  rintro x w1 ⟨rfl,hb⟩
  have HB:=hid hb
  clear CA hb
  go_wp2_with fail
  go_ret
  exact⟨rfl,HB.out⟩
 ·have hz2:¬(4096:Int)<(s.size:Int):=by omega
  have CP:=HPP.out s w (by omega) (Below.refl _ _)
  have HF:Hid (∀l w1 v,progT s=.ok l→IsPr w.heap.size w1 l v→∃(xs:List Nd)(a:Option Addr)(cap:Nat)(t:ByteArray),v=.agg #[.slice a xs.length cap]∧Lie w1 a xs∧Goods xs∧(∀x∈xs,x.nums)∧progOut xs=(t,0)∧t.size≤65536∧∃l',progT t=.ok l'∧l'.map Nd.nop=xs.map Nd.nop):=fun l w1 v h1 h2=>twice_facts (by omega) h1 h2
  generalize progT s=res at CP HF
  go_enter Tryz.func4,Tryz.ntmps4
  go_wp2_with fail
  refine CP.mono ?_
  rintro x w1 ⟨hb1,h1⟩
  have HB1:=hid hb1
  cases res with
  | error er =>
   obtain⟨why,kk,ee⟩:=er
   obtain rfl:x=_:=h1
   have hb2:Below w.heap.size w (w1.alloc (.cells #[.slice none 0 0] 24)):=hb1.alloc hb1.size _
   have CA:=HA.out _ hb2
   have HB2:Hid _:=hb2
   clear CP hb1 hb2 HF HPP
   go_wp2_with fail
   refine CA.mono ?_
   rintro x w2 ⟨rfl,hb⟩
   have HB3:=hid (HB2.out.trans (hb.mono HB2.out.size))
   clear CA hb
   go_wp2_with fail
   go_ret
   exact⟨rfl,HB3.out⟩
  | ok l =>
   obtain⟨v,rfl,hI⟩:=h1
   obtain⟨xs,a,cap,t,rfl,hl,hgd,hnm,ho,hts,l',hl',hno⟩:=HF.out l w1 v rfl hI
   obtain⟨W0,hW0⟩:=nw (w1.alloc (.cells #[.slice a xs.length cap] 24))
   have hb0:Below w1.heap.size w1 W0:=by rw[hW0];exact bal _
   have HB0:=hid (HB1.out.trans (hb0.mono HB1.out.size))
   have hl0:=hl.below hb0
   have x0:W0.cell? ⟨w1.heap.size,0,none⟩=some (.slice a xs.length cap):=by rw[hW0];exact World.cell?_alloc_at _ _ _ _ rfl
   have HBox:Hid (∀w',Hid (Below W0.heap.size W0 w')→w'.cell? ⟨w1.heap.size,0,none⟩=some (.slice a xs.length cap)):=fun w' h=>(h.out.cell (p:=⟨w1.heap.size,0,none⟩) (World.block_lt_of_cell? _ ⟨w1.heap.size,0,none⟩ x0)).trans x0
   have CS:Calls Tryz.prog 10 #[.agg #[.slice a xs.length cap]] W0 fun x w''=>x=.returned (.tuple #[.string t,.int .i64 0])∧Below W0.heap.size W0 w'':=by
    have:=program_ref xs a cap hgd hnm W0 hl0
    rw[ho] at this
    exact this
   have HQ:Hid (∀w',Below W0.heap.size W0 w'→Calls Tryz.prog 12 #[.string t] w' fun x w''=>∃a' n' cap',x=.returned (.tuple #[.agg #[.slice a' n' cap'],.nilIface])∧Below w'.heap.size w' w''∧Hid (∀W,Below w''.heap.size w'' W→Calls Tryz.prog 13 #[.agg #[.slice a xs.length cap],.agg #[.slice a' n' cap']] W fun r W'=>r=.returned (.bool true)∧Below W.heap.size W W')):=fun w' h=>by
    have C:=HPP.out t w' hts (HB0.out.trans (h.mono HB0.out.size))
    rw[hl'] at C
    refine C.mono ?_
    rintro x w'' ⟨hb,v,rfl,hI2⟩
    obtain⟨a',n',cap',rfl,hS⟩:=read_same (w:=w') (a:=a) (cap:=cap) hgd (hl0.below (h.trans (hb.mono h.size))) hI2 hno (prog_bulk hl')
    exact⟨a',n',cap',rfl,hb,hS⟩
   have HA0:Hid (∀w',Below W0.heap.size W0 w'→Calls Tryz.prog 9 #[] w' fun x w''=>x=.returned (.bool true)∧Below w'.heap.size w' w''):=fun w' h=>HA.out w' (HB0.out.trans (h.mono HB0.out.size))
   have HE0:=hid hW0.symm
   have HS0:Hid (W0.heap.size=w1.heap.size+1):=by rw[Hid,hW0];simp
   generalize xs.length=n at *
   clear CP hb1 hI hl hgd hnm ho hts hl' hno hb0 hl0 x0 hW0 HF HPP HA HB1 hz
   go_wp2_with fail
   rw[HE0.out]
   refine CS.mono ?_
   rintro x w2 ⟨rfl,hb2⟩
   have K2:=hid hb2
   have y2:=HBox.out w2 K2
   have C3:=HQ.out w2 K2.out
   clear CS hb2
   go_wp2_with fail
   refine C3.mono ?_
   rintro x w3 ⟨a',n',cap',rfl,hb3,HSm⟩
   have K3:=hid (K2.out.trans (hb3.mono K2.out.size))
   clear C3 hb3 y2 HQ
   obtain⟨v3,hv⟩:=nw (w3.alloc (.cells #[.slice a' n' cap'] 24))
   have hbv:Below w3.heap.size w3 v3:=by rw[hv];exact bal _
   have Kv:=hid (K3.out.trans (hbv.mono K3.out.size))
   have y3:=HBox.out w3 K3
   have ylt:=World.block_lt_of_cell? w3 ⟨w1.heap.size,0,none⟩ y3
   simp only at ylt
   have CS:=HSm.out v3 hbv
   have HV:=hid hv.symm
   clear hv hbv HSm
   go_wp2_with fail
   rw[HV.out]
   refine CS.mono ?_
   rintro x w4 ⟨rfl,hb4⟩
   have K4:=hid (Kv.out.trans (hb4.mono Kv.out.size))
   clear CS hb4 y3 ylt
   have CA:=HA0.out w4 K4.out
   go_wp2_with fail
   refine CA.mono ?_
   rintro x w5 ⟨rfl,hb5⟩
   have K5:=hid (K4.out.trans (hb5.mono K4.out.size))
   clear CA hb5
   go_wp2_with fail
   go_ret
   exact⟨rfl,HB0.out.trans (K5.out.mono HB0.out.size)⟩
end Go.Proofs.YthbgnpkgglbhjaaGreatDoor
