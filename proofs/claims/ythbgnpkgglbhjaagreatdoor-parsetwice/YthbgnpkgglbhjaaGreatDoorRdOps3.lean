import Derived.Test.YthbgnpkgglbhjaaGreatDoorRdOps2
import Derived.LoopTactic
namespace Go.Proofs.YthbgnpkgglbhjaaGreatDoor
open Go.RowKit Go.Shelf
open Ex.size Ex.depth Ex.lies Ex.bulk Ex.good Ex.bare
attribute [local go_sem] tk_f0 tk_f1 tk_f2 tk_f3
def Does{α:Type}(W0:World)(R:Nat)(f:Nat)(Is:Nat→World→α→Value→Prop)(p:Nat→List Tok→PR α):Prop:=∀(op:Nat)(ts:List Tok)(w:World),Ends ts→RdAt W0 R ts op w→(∀k,p op ts≠.error (k,0))→Calls Tryz.prog f #[rp R] w (Post W0 R op w (p op ts) (Is w.heap.size))
theorem skip_all{W0:World}{R op:Nat}{t:Tok}{ts:List Tok}{w:World}(s:ByteArray)(hs:s≠⟨#[]⟩)(h:RdAt W0 R (t::ts) op w)(hE:Ends (t::ts)):Calls Tryz.prog 98 #[rp R,.string s] w fun x w'=>x=.returned (.bool (decide (t.text=s)))∧KeepsB R w w'∧RdAt W0 R (if t.text=s then ts else t::ts) op w'∧Ends (if t.text=s then ts else t::ts):=by
 by_cases hn:t.text=s
 ·obtain⟨hE2,t',r,rfl⟩:=hE.more (Or.inr (by rw[hn];exact hs))
  refine(skip_rd s h hn).mono ?_
  rintro x w' ⟨rfl,hr,hk⟩
  rw[if_pos hn,decide_eq_true hn]
  exact⟨rfl,hk,hr,hE2⟩
 ·refine(noskip_rd s h hn).mono ?_
  rintro x w' ⟨rfl,hb⟩
  rw[if_neg hn,decide_eq_false hn]
  exact⟨rfl,KeepsB.ofBelow hb,h.below hb,hE⟩
theorem ex_one(x:Ex):∀u∈eltE.cells x,u.oneCell'=true:=by
 intro u hu
 have hu:u∈x.cells:=hu
 obtain⟨kd,pl,nm,it,dn,a,c,l⟩:=x
 simp only[Ex.cells,List.mem_cons,List.not_mem_nil,or_false] at hu
 rcases hu with rfl|rfl|rfl|rfl|rfl|rfl<;>rfl
theorem Tryz.infoExprL:(Tryz.prog.info? 27).map (fun i=>(i.zero,i.size,i.bytes))=some (some (.agg #[.int .u8 0,.int .i64 0,.string ⟨#[]⟩,.int .i64 0,.int .i64 0,.slice none 0 0]),6,72):=by kernel_rfl
set_option maxRecDepth 100000 in
set_option maxHeartbeats 6400000 in
theorem listE_rd{W0:World}{R:Nat}(f:Nat)(hent:Enters Tryz.prog f)(part:Nat→List Tok→PR Ex)(hpart:Does W0 R f IsEx part)(hlen:∀op ts e t2,part op ts=.ok (e,t2)→t2.length≤ts.length)(s:ByteArray)(hs:s≠⟨#[]⟩)(n op:Nat)(ts:List Tok)(w:World)(hE:Ends ts)(hrd:RdAt W0 R ts op w)(res:PR (List Ex))(hres:res=listT (part op) s n ts)(hns:∀k,res≠.error (k,0)) :
  Calls Tryz.prog 179 #[rp R,.string s,.func (.func f) #[rp R] #[]] w (Post W0 R op w res (IsRow eltE w.heap.size)):=by
 obtain⟨i0,hi,hz0',hz1,hz2⟩:=info_parts Tryz.infoExprL
 have HI:Hid _:=hi
 have HZ0:Hid _:=hz0'
 have HZ1:Hid _:=hz1
 have HZ2:Hid _:=hz2
 have HM:Hid (∀(ts:List Tok)(b:World),Ends ts→RdAt W0 R ts op b→(∀k,part op ts≠.error (k,0))→Calls Tryz.prog f #[.pointer (some ⟨R,0,none⟩)] b (Post W0 R op b (part op ts) (IsEx b.heap.size))):=fun ts b h1 h2 h3=>hpart op ts b h1 h2 h3
 have HLen:Hid (∀ts e t2,part op ts=.ok (e,t2)→t2.length≤ts.length):=fun ts e t2 h=>hlen op ts e t2 h
 have HRes:Hid (res=(part op ts).then fun e ts1=>listL (part op) s n [e] ts1):=hres
 have HNs:=hid hns
 have HNs1:Hid (∀k,part op ts≠.error (k,0)):=fun k h=>hns k (by rw[HRes.out,h];rfl)
 have HRd:Hid (W0.heap.size≤w.heap.size∧R<w.heap.size):=⟨hrd.keeps.size,hrd.lt⟩
 have HR0:=hid hrd
 have HS:=hid hs
 have HFew:=hid (hE.few)
 have HLen1:Hid (∀e t2,part op ts=.ok (e,t2)→t2.length≤ts.length):=fun e t2 h=>hlen op ts e t2 h
 have hent':∀args W,(callFunc f args).run Tryz.prog W=.ok (.enter f args) W:=hent
 have C1:=HM.out ts w hE hrd HNs1.out
 clear hi hz0' hz1 hz2 hpart hlen hres hns hE hrd hs hent
 simp only[rp] at C1 ⊢
 go_enter Tryz.func179,Tryz.ntmps179
 go_wp2_with fail
 refine C1.mono ?_
 rintro x w1 ⟨hk,hp⟩
 have HK1:=hid hk
 clear C1 hk
 cases hpp:part op ts with
 | error er =>
  obtain⟨kk,ee⟩:=er
  rw[hpp] at hp HRes
  obtain⟨rfl,t2,hr2⟩:=hp
  have HR2:Hid _:=hr2
  have HRes2:Hid (res=.error (kk,ee)):=HRes.out
  clear hr2 hpp HRes
  go_wp2_with fail
  rw[HRes2.out]
  exact⟨rfl,HK1.out,rfl,t2,HR2.out⟩
 | ok pr =>
  obtain⟨a1,t1⟩:=pr
  have hl1:=HLen1.out a1 t1 hpp
  rw[hpp] at hp HRes
  obtain⟨⟨v,rfl,hv⟩,hr1,hE1⟩:=hp
  obtain⟨xa,hview,rfl,hl,hg⟩:=hv
  have hlies:eltE.lies _ _ xa:=⟨hl,hg⟩
  clear hl hg
  have HRes1:Hid (res=listL (part op) s n [a1] t1):=HRes.out
  obtain⟨wL,hwL⟩:=nw (w1.alloc (.cells (eltE.cells xa).toArray 27))
  have HI1:Hid (InL eltE R w.heap.size 27 w [xa] (.slice (some ⟨w1.heap.size,0,none⟩) 1 1) wL∧RdAt W0 R t1 op wL∧Ends t1∧listL (part op) s n ([xa].map eltE.view) t1=res∧[xa].length+t1.length≤100001∧0<[xa].length∧w.heap.size≤wL.heap.size):=by
   rw[hwL]
   refine⟨InL.first HK1.out HK1.out.size hlies,hr1.below (bal _),hE1,?_,?_,by simp,?_⟩
   ·rw[HRes1.out,←hview];rfl
   ·have:=HFew.out;simp only[lC,lN];omega
   ·have:=HK1.out.size;simp;omega
  obtain⟨ka,pa,na,ia,da,aa,ca,la⟩:=xa
  simp only[Ex.val,Ex.cells]
  have HWL:Hid (w1.alloc (.cells #[.int .u8 ka,.int .i64 pa,.string na,.int .i64 ia,.int .i64 da,.slice aa la.length ca] 27)=wL):=hwL.symm
  clear hlies hview hr1 hE1 hwL hpp HRes HRes1 hl1
  go_wp2_with fail
  rw[HWL.out]
  clear HWL
  go_loopw [7] (fun v wr=>∃(xs:List Ex)(ts':List Tok)(n':Nat),Hid (InL eltE R w.heap.size 27 w xs v wr∧RdAt W0 R ts' op wr∧Ends ts'∧listL (part op) s n' (xs.map eltE.view) ts'=res∧xs.length+ts'.length≤100001∧0<xs.length∧w.heap.size≤wr.heap.size)) (fun _ wr=>restOf R wr)
  case atStart=>exact⟨_,t1,n,HI1⟩
  case round =>
   obtain⟨xs,ts',n',HX⟩:=hrel
   obtain⟨hI,hr,hE,hch,hfew,hpos,hws⟩:=HX.out
   obtain⟨t,r,rfl⟩:=hE.ne
   rcases n' with _|n'
   ·exact absurd hch.symm (HNs.out 0)
   obtain⟨va,vc,rfl⟩:=hI.form
   have HI2:=hid hI
   have HPos:=hid hpos
   have HFw:Hid (xs.length+(r.length+1)≤100001):=by rw[Hid];simpa using hfew
   have HWs:=hid hws
   have HMeas:Hid (restOf R wr=r.length+1):=hr.rest
   have HRw:=hid hr
   have HEw:=hid hE
   have CS:=skip_all s HS.out hr hE
   by_cases hts:t.text=s
   ·have hch2:(part op r).then (fun e ts1=>listL (part op) s n' (xs.map eltE.view++[e]) ts1)=res:=by rw[←hch,listL];exact(if_pos hts).symm
    have HCh:Hid _:=hch2
    rw[if_pos hts,decide_eq_true hts] at CS
    clear hI hr hE hch hfew hpos hws HX hts hch2 HI1
    simp only[rp] at CS
    go_wp2_with fail
    refine CS.mono ?_
    rintro r2 w2 ⟨rfl,hk2,hr2,hE2⟩
    have HN2:Hid (∀k,part op r≠.error (k,0)):=fun k h=>HNs.out k (by rw[←HCh.out,h];rfl)
    have HR2:=hid hr2
    have HK2:=hid hk2
    have HE2:=hid hE2
    have HP:Hid (∀W,RdAt W0 R r op W→Calls Tryz.prog f #[.pointer (some ⟨R,0,none⟩)] W (Post W0 R op W (part op r) (IsEx W.heap.size))):=fun W h=>HM.out r W HE2.out h HN2.out
    have C3:=HP.out w2 HR2.out
    clear CS hk2 hr2 hE2
    cases hpp:part op r with
    | error er =>
     obtain⟨kk,ee⟩:=er
     rw[hpp] at C3 HCh
     have HRes3:Hid (res=.error (kk,ee)):=HCh.out.symm
     clear hpp HCh
     go_wp2_with fail
     refine C3.mono ?_
     rintro r4 w3 ⟨hk3,rfl,t3,hr3⟩
     have HK3:=hid (HK2.out.trans hk3)
     have HR3:Hid _:=hr3
     clear C3 hk3 hr3
     go_wp2_with fail
     rw[HRes3.out]
     exact⟨rfl,HI2.out.keeps.trans HK3.out,rfl,t3,HR3.out⟩
    | ok pr =>
     obtain⟨a3,t3⟩:=pr
     have HL3:=hid (HLen.out r a3 t3 hpp)
     rw[hpp] at C3 HCh
     clear hpp
     go_wp2_with fail
     refine C3.mono ?_
     rintro r4 w3 ⟨hk3,⟨v3,rfl,hv⟩,hr3,hE3⟩
     obtain⟨xb,hview,rfl,hl,hg⟩:=hv
     have hlies:eltE.lies _ _ xb:=⟨hl,hg⟩
     clear hl hg
     have HK3:=hid (HK2.out.trans hk3)
     have HI3:=hid (HI2.out.keep HK3.out HRd.out.2)
     have HR3:=hid hr3
     have HE3:=hid hE3
     have HLi:Hid (eltE.lies (fun k=>w.heap.size≤k∧some k≠(Value.slice va xs.length vc).ownBlock) w3 xb):=eltE.mono hlies fun k _ (hq:w2.heap.size≤k)=>⟨by have:=HK2.out.size;have:=HWs.out;omega,fun he=>by have:=(HI2.out.own.lt k he.symm).2;have:=HK2.out.size;omega⟩
     have HW3:=hid (Nat.le_trans HWs.out HK3.out.size)
     have HC4:Hid (listL (part op) s n' ((xs++[xb]).map eltE.view) t3=res):=by rw[Hid,List.map_append,←HCh.out,←hview];rfl
     have HOwn:Hid ((w3.alloc (.cells (eltE.cells xb).toArray 27)).ownsRow w.heap.size 27 6 (.slice va xs.length vc) xs.length (flatOf eltE.cells xs)):=HI3.out.own.alloc _
     have hb1:xs.length+1≤maxLen:=by have:=HFw.out;unfold maxLen;omega
     have hb2:(xs.length+1)*72≤140737488355328:=by have:=HFw.out;omega
     have HB1:Hid _:=hb1
     have HB2:Hid _:=hb2
     have HWb:Hid (w.heap.size≤(w3.alloc (.cells (eltE.cells xb).toArray 27)).heap.size):=by have:=HW3.out;rw[Hid];simp;omega
     have HNw:Hid _:=news_at w3 (eltE.cells xb) 27
     have HOne:=hid (ex_one xb)
     clear C3 hk3 hr3 hE3 hlies hview hb1 hb2
     obtain⟨kb,pb,nb,ib,db,ab,cb,lb⟩:=xb
     simp only[Ex.val,Ex.cells]
     go_wp2_with (at_builtin;refine wpList_append_lies _ rfl _ _ 25 rfl w.heap.size 27 i0 _ 6 72 Tryz.underlying25 HI.out HZ0.out HZ1.out HZ2.out rfl (by decide) _ _ _ rfl HOwn.out ⟨w3.heap.size,0,none⟩ 1 1 (eltE.cells ⟨kb,pb,nb,ib,db,ab,cb,lb⟩) rfl rfl HNw.out HOne.out (by decide) HB1.out HB2.out HWb.out _ rfl ?_)
     intro g cap w5 hown hgr hat hlt5
     obtain⟨q1,q2,q3,q4⟩:=HI3.out.more ⟨kb,pb,nb,ib,db,ab,cb,lb⟩ HLi.out HRd.out.2 (Nat.le_refl _) HW3.out g cap hown hgr (hat.imp id fun h=>h.trans (by simp))
     have HI5:Hid _:=q1
     have HS5:=hid (Nat.le_trans HW3.out q2)
     have HR5:=hid (HR3.out.same (HR0.out.keeps.trans q3) q4)
     clear hown hgr hat hlt5 q1 q2 q3 q4
     go_wp2_with fail
     go_roundw
     case rel =>
      refine⟨xs++[⟨kb,pb,nb,ib,db,ab,cb,lb⟩],t3,n',HI5.out,HR5.out,HE3.out,HC4.out,?_,?_,HS5.out⟩
      ·have:=HFw.out;have:=HL3.out;simp only[List.length_append,List.length_cons,List.length_nil];omega
      ·simp
     case measure =>
      rw[HMeas.out]
      have:=HR5.out.rest
      have:=HL3.out
      omega
   ·have hres3:res=.ok (xs.map eltE.view,t::r):=by rw[←hch,listL];exact if_neg hts
    have HRes3:Hid _:=hres3
    have HDone:Hid (IsRow eltE w.heap.size wr (xs.map eltE.view) (.slice va xs.length vc)):=HI2.out.done HPos.out (by have:=HFw.out;omega)
    rw[if_neg hts,decide_eq_false hts] at CS
    clear hI hr hE hch hfew hpos hws HX hts hres3 HI1
    simp only[rp] at CS
    go_wp2_with fail
    refine CS.mono ?_
    rintro r2 w2 ⟨rfl,hk2,hr2,hE2⟩
    have HR2:=hid hr2
    have HK2:=hid hk2
    have HE2:=hid hE2
    clear CS hk2 hr2 hE2
    go_wp2_with fail
    go_ret
    rw[HRes3.out]
    exact⟨HI2.out.keeps.trans HK2.out,⟨_,rfl,HDone.out.keep (KeepsQ.ofB HK2.out fun h=>by have:=HRd.out.2;omega)⟩,HR2.out,HE2.out⟩
end Go.Proofs.YthbgnpkgglbhjaaGreatDoor
namespace Go.Proofs.YthbgnpkgglbhjaaGreatDoor
open Go.RowKit
open Ex.size Ex.depth Ex.lies Ex.bulk Ex.good Ex.bare
def IsPair(_:World)(x:Int × Int)(v:Value):Prop:=v=.tuple #[.int .i64 x.1,.int .i64 x.2]
theorem numT_ok{l:Int}{t:Tok}{ts:List Tok}(h:t.kind=2∧¬t.int<l):numT l (t::ts)=.ok (t.int,ts):=if_pos h
theorem numT_bad{l:Int}{t:Tok}{ts:List Tok}(h:¬(t.kind=2∧¬t.int<l)):numT l (t::ts)=.error ((t.place:Nat),60):=if_neg h
theorem num_rd{W0:World}{R op:Nat}{t:Tok}{ts:List Tok}{w:World}(l:Int)(h:RdAt W0 R (t::ts) op w)(hE:Ends (t::ts)):Calls Tryz.prog 123 #[rp R,.int .i64 l] w (Post W0 R op w (numT l (t::ts)) fun _ a v=>v=.int .i64 a):=by
 by_cases hn:t.kind=2∧¬t.int<l
 ·obtain⟨hE2,t',r,rfl⟩:=hE.more (Or.inl (by rw[hn.1];decide))
  rw[numT_ok hn]
  refine(number_rd l h hn.1 hn.2).mono ?_
  rintro x w' ⟨rfl,hr,hk⟩
  exact⟨hk,⟨_,rfl,rfl⟩,hr,hE2⟩
 ·rw[numT_bad hn]
  refine(nonumber_rd l h hn).mono ?_
  rintro x w' ⟨rfl,hb⟩
  exact⟨KeepsB.ofBelow hb,rfl,_,h.below hb⟩
set_option maxRecDepth 100000 in
set_option maxHeartbeats 3200000 in
theorem delay_rd{W0:World}{R op:Nat}{t:Tok}{ts:List Tok}{w:World}(h:RdAt W0 R (t::ts) op w)(hE:Ends (t::ts)):Calls Tryz.prog 175 #[rp R] w (Post W0 R op w (lateT (t::ts)) IsPair):=by
 have CN:=num_rd 0 h hE
 have HRes:Hid (lateT (t::ts)=(numT 0 (t::ts)).then fun a ts1=>if (hd ts1).text=⟨#[47]⟩ then (numT 1 ts1.tail).then fun b ts2=>.ok ((a,b),ts2) else .ok ((a,1),ts1)):=rfl
 generalize lateT (t::ts)=res at HRes ⊢
 generalize numT 0 (t::ts)=p1 at CN HRes
 clear h hE
 simp only[rp] at CN ⊢
 go_enter Tryz.func175,Tryz.ntmps175
 go_wp2_with fail
 refine CN.mono ?_
 rintro x w1 ⟨hk,hp⟩
 have HK1:=hid hk
 clear CN hk
 cases p1 with
 | error er =>
  obtain⟨kk,ee⟩:=er
  obtain⟨rfl,t2,hr2⟩:=hp
  have HR2:Hid _:=hr2
  have HRes2:Hid (res=.error (kk,ee)):=HRes.out
  clear hr2
  go_wp2_with fail
  rw[HRes2.out]
  exact⟨rfl,HK1.out,rfl,t2,HR2.out⟩
 | ok pr =>
  obtain⟨a,t1⟩:=pr
  obtain⟨⟨v,rfl,rfl⟩,hr1,hE1⟩:=hp
  obtain⟨u,r,rfl⟩:=hE1.ne
  have HR1:=hid hr1
  have HE1:=hid hE1
  have HRes1:Hid (res=if u.text=⟨#[47]⟩ then (numT 1 r).then fun b ts2=>.ok ((a,b),ts2) else .ok ((a,1),u::r)):=HRes.out
  by_cases hs:u.text=⟨#[47]⟩
  ·obtain⟨hE2,t',r',rfl⟩:=hE1.more (Or.inr (by rw[hs];decide))
   have CS:=skip_rd ⟨#[47]⟩ hr1 hs
   have HE2:=hid hE2
   have HRes2:Hid (res=(numT 1 (t'::r')).then fun b ts2=>.ok ((a,b),ts2)):=by rw[Hid,HRes1.out,if_pos hs]
   clear hr1 hE1 hE2 hs HRes HRes1
   simp only[rp] at CS
   go_wp2_with fail
   refine CS.mono ?_
   rintro x2 w2 ⟨rfl,hr2,hk2⟩
   have C2:=num_rd 1 hr2 HE2.out
   have HK2:=hid (HK1.out.trans hk2)
   clear CS hr2 hk2
   generalize numT 1 (t'::r')=p2 at C2 HRes2
   simp only[rp] at C2
   go_wp2_with fail
   refine C2.mono ?_
   rintro x3 w3 ⟨hk3,hp3⟩
   have HK3:=hid (HK2.out.trans hk3)
   clear C2 hk3
   cases p2 with
   | error er =>
    obtain⟨kk,ee⟩:=er
    obtain⟨rfl,t3,hr3⟩:=hp3
    have HR3:Hid _:=hr3
    have HRes3:Hid (res=.error (kk,ee)):=HRes2.out
    clear hr3
    go_wp2_with fail
    rw[HRes3.out]
    exact⟨rfl,HK3.out,rfl,t3,HR3.out⟩
   | ok pr =>
    obtain⟨b,t3⟩:=pr
    obtain⟨⟨v,rfl,rfl⟩,hr3,hE3⟩:=hp3
    have HRes3:Hid (res=.ok ((a,b),t3)):=HRes2.out
    have HR3:Hid _:=hr3
    have HE3:=hid hE3
    clear hr3 hE3
    go_wp2_with fail
    go_ret2
    rw[HRes3.out]
    exact⟨HK3.out,⟨_,rfl,rfl⟩,HR3.out,HE3.out⟩
  ·have CS:=noskip_rd ⟨#[47]⟩ hr1 hs
   have HRes2:Hid (res=.ok ((a,1),u::r)):=by rw[Hid,HRes1.out,if_neg hs]
   clear hr1 hE1 hs HRes HRes1
   simp only[rp] at CS
   go_wp2_with fail
   refine CS.mono ?_
   rintro x2 w2 ⟨rfl,hb2⟩
   have HB2:=hid hb2
   clear CS hb2
   go_wp2_with fail
   go_ret2
   rw[HRes2.out]
   exact⟨HK1.out.trans (KeepsB.ofBelow HB2.out),⟨_,rfl,rfl⟩,HR1.out.below HB2.out,HE1.out⟩
open Go.Shelf
attribute [local go_sem] tk_f0 tk_f1 tk_f2 tk_f3
def callA(n op:Nat)(t:Tok)(ts:List Tok):PR Ex:=(listT (pp n 0 (op+1)) ⟨#[44]⟩ n ts).then fun l t2=>(wantT ⟨#[41]⟩ t2).then fun _ t3=>.ok (.mk 4 t.place t.text 0 0 none 0 l,t3)
def nameA(n op:Nat)(t:Tok)(ts:List Tok):PR Ex:=if (hd ts).text=⟨#[40]⟩ then openT op ts (callA n op t) else .ok (.mk 1 t.place t.text 0 0 none 0 [],ts)
theorem goods_all(l:List Ex)(h:∀x∈l,x.good):goods l:=by
 induction l with
 | nil=>exact trivial
 | cons e r ih=>exact⟨h e (by simp),ih fun x hx=>h x (by simp[hx])⟩
theorem RdAt.set0{W0:World}{R op B i:Nat}{ts:List Tok}{w:World}(h:RdAt W0 R ts op w)(hB:W0.heap.size≤B)(v:Value):RdAt W0 R ts op (w.setCell ⟨B,i,none⟩ v):=h.other hB
set_option maxRecDepth 100000 in
set_option maxHeartbeats 6400000 in
theorem named_rd{W0:World}{R:Nat}(n:Nat)(hpe:DoesE W0 R 34 (pp n 0))(hlen:∀op ts e t2,pp n 0 op ts=.ok (e,t2)→t2.length≤ts.length)(op:Nat)(t:Tok)(ts:List Tok)(w:World)(hk:t.kind=1)(hE:Ends (t::ts))(hrd:RdAt W0 R (t::ts) op w)(res:PR Ex)(hres:res=nameA n op t ts)(hns:∀k,res≠.error (k,0)) :
  Calls Tryz.prog 178 #[rp R] w (Post W0 R op w res (IsEx w.heap.size)):=by
 obtain⟨w0,hw0⟩:∃w0:World,w0=w.alloc (.cells #[.int .u8 0,.int .i64 0,.string ⟨#[]⟩,.int .i64 0,.int .i64 0,.slice none 0 0] 27):=⟨_,rfl⟩
 have hb0:Below w.heap.size w w0:=by rw[hw0];exact bal _
 have HS0:Hid (w0.heap.size=w.heap.size+1):=by rw[Hid,hw0];simp
 have HO0:Hid (Own w0 w.heap.size):=by rw[Hid,hw0];exact Own.made w _ rfl
 have HW0:=hid hw0.symm
 have HB0:=hid hb0
 have HRd:Hid (W0.heap.size≤w.heap.size∧R<w.heap.size):=⟨hrd.keeps.size,hrd.lt⟩
 have HneR:Hid (w.heap.size≠R):=by have:=hrd.lt;rw[Hid];omega
 have HLe:=hid (hrd.le)
 have HFine:Hid t.fine:=hE.fine
 obtain⟨hE2,t',r',rfl⟩:=hE.more (Or.inl (by rw[hk];decide))
 have HE2:=hid hE2
 have hr0:=hrd.below hb0
 have CN:=next_rd hr0
 have HNm:Hid (∀w',Below w0.heap.size w0 w'→Calls Tryz.prog 92 #[.pointer (some ⟨R,0,none⟩)] w' fun x w''=>x=.returned (.string t.text)∧RdAt W0 R (t'::r') op w''∧KeepsB R w' w''):=fun w' hb=>name_rd (hr0.below hb) hk
 have HRes:=hid hres
 have HNs:=hid hns
 have HM:=hid hpe
 have HLen:=hid hlen
 clear hpe hlen hE hE2 hrd hres hns hw0 hb0 hr0 hk
 simp only[rp,tkVal,tkCells] at CN ⊢
 go_enter_defers Tryz.func178,Tryz.ntmps178
 go_wp2_with fail
 rw[HW0.out]
 refine CN.mono ?_
 rintro x w1 ⟨rfl,hb1⟩
 have HB1:=hid hb1
 have CM:=HNm.out w1 hb1
 clear CN hb1
 go_wp2_with fail
 refine CM.mono ?_
 rintro x w2 ⟨rfl,hr2,hk2⟩
 have HK2:=hid ((KeepsB.ofBelow HB1.out).trans hk2)
 obtain⟨w3,hw3⟩:=nw (w2.alloc (.cells #[.int .u8 1,.int .i64 t.place,.string t.text,.int .i64 0,.int .i64 0,.slice none 0 0] 27))
 obtain⟨B,hB⟩:=nw (w2.heap.size)
 have hb3:Below w2.heap.size w2 w3:=by rw[hw3];exact bal _
 have HR3:=hid (hr2.below hb3)
 have HK3:=hid (HK2.out.trans (KeepsB.ofBelow hb3))
 have HBB:Hid (w.heap.size<B∧B≠R∧B<w3.heap.size):=by
  have h1:=HRd.out
  have h2:=HK2.out.size
  have h3:=HS0.out
  have h4:w3.heap.size=w2.heap.size+1:=by rw[hw3];simp
  exact⟨by omega,by omega,by omega⟩
 have HC3:Hid (∀j,w3.cell? ⟨B,j,none⟩=(#[.int .u8 1,.int .i64 t.place,.string t.text,.int .i64 0,.int .i64 0,.slice none 0 0]:Array Value)[j]?∧w3.frozen? ⟨B,j,none⟩=false):=fun j=>by rw[hw3];exact⟨World.cell?_alloc_at _ _ _ _ hB,World.frozen?_alloc_at _ _ _ _ hB⟩
 have HW3:=hid hw3.symm
 have CI:=is_rd ⟨#[40]⟩ HR3.out
 clear CM hr2 hk2 hb3 hw3
 simp only[rp] at CI
 by_cases hop:t'.text=⟨#[40]⟩
 ·rw[decide_eq_true hop] at CI
  have HRes1:=hid (HRes.out.trans (if_pos hop))
  obtain⟨hE3,t'',r'',rfl⟩:=HE2.out.more (Or.inr (by rw[hop];decide))
  have HE3:=hid hE3
  clear hE3 hop HRes
  go_wp2_with fail
  rw[HW3.out]
  simp only[←hB]
  clear hB
  refine CI.mono ?_
  rintro x u1 ⟨rfl,hb4⟩
  have HK4:Hid (KeepsB R w3 u1):=KeepsB.ofBelow hb4
  have HR4:=hid (HR3.out.below hb4)
  clear CI hb4
  by_cases h200:op=200
  ·subst h200
   have CE:=noenter_rd HR4.out
   have HRes2:Hid (res=.error (t'.place,61)):=HRes1.out
   simp only[rp,bad] at CE
   go_wp2_with fail
   refine CE.mono ?_
   rintro x v1 ⟨rfl,hb5⟩
   have HB5:=hid hb5
   clear CE hb5
   go_wp2_with fail
   show Post W0 R 200 w res (IsEx w.heap.size) (.panicked [{ v:=badVal t'.place 61,recovered:=false }]) v1
   rw[HRes2.out]
   exact⟨(KeepsB.ofBelow HB0.out).trans (HK3.out.trans (HK4.out.trans (KeepsB.ofBelow HB5.out))),rfl,_,HR4.out.below HB5.out⟩
  ·have CE:=enter_rd HR4.out (by have:=HLe.out;omega)
   have HRes2:Hid (res=callA n op t (t''::r'')):=by rw[Hid,HRes1.out,openT,if_neg h200];rfl
   have HNs2:Hid (∀k,listT (pp n 0 (op+1)) ⟨#[44]⟩ n (t''::r'')≠.error (k,0)):=fun k h=>HNs.out k (by rw[HRes2.out,callA,h];rfl)
   clear HRes1
   simp only[rp,tkVal,tkCells] at CE
   go_wp2_with fail
   refine CE.mono ?_
   rintro x v0 ⟨rfl,hr5,hk5⟩
   have HR5:=hid hr5
   have HK5:=hid (HK4.out.trans hk5)
   have HL5 : Hid (∀ W, RdAt W0 R (t'' :: r'') (op + 1) W → Calls Tryz.prog 179 #[.pointer (some ⟨R, 0, none⟩), .string ⟨#[44]⟩, .func (.func 34) #[.pointer (some ⟨R, 0, none⟩)] #[]] W (Post W0 R (op + 1) W (listT (pp n 0 (op + 1)) ⟨#[44]⟩ n (t'' :: r'')) (IsRow eltE W.heap.size))) := fun W h => listE_rd 34 (enters_of Tryz.func34 (by kernel_rfl) rfl) (pp n 0) HM.out HLen.out ⟨#[44]⟩ (by decide) n (op + 1) (t'' :: r'') W HE3.out h _ rfl HNs2.out
   clear CE hr5 hk5
   cases hpp:listT (pp n 0 (op+1)) ⟨#[44]⟩ n (t''::r'') with
   | error er =>
    obtain⟨kk,ee⟩:=er
    have C6:=HL5.out v0 HR5.out
    rw[hpp] at C6
    have HResE:Hid (res=.error (kk,ee)):=by rw[Hid,HRes2.out,callA,hpp];rfl
    clear hpp
    go_wp2_with fail
    refine C6.mono ?_
    rintro x v1 ⟨hk6,rfl,t6,hr6⟩
    have HRE:Hid _:=hr6
    have HKE:=hid (HK3.out.trans (HK5.out.trans hk6))
    clear C6 hr6 hk6
    go_wp2_with fail
    refine leaves_cons (f:=65) (args:=#[rp R]) (by simp) (by simp[go_sem,rp]) ?_
    refine(leave_d _ HRE.out).mono ?_
    rintro e u' wE ⟨rfl,rfl,hrE,hkE⟩
    show Post W0 R op w res (IsEx w.heap.size) (.panicked [{ v:=badVal kk ee,recovered:=false }]) wE
    rw[HResE.out]
    exact⟨(KeepsB.ofBelow HB0.out).trans (HKE.out.trans hkE),rfl,_,hrE⟩
   | ok pr =>
    obtain⟨l,t6⟩:=pr
    have C6:=HL5.out v0 HR5.out
    rw[hpp] at C6
    have HRes3:Hid (res=(wantT ⟨#[41]⟩ t6).then fun _ t3=>.ok (.mk 4 t.place t.text 0 0 none 0 l,t3)):=by rw[Hid,HRes2.out,callA,hpp];rfl
    clear hpp
    go_wp2_with fail
    refine C6.mono ?_
    rintro x v1 ⟨hk6,⟨v,rfl,xs,g,cap,hview,rfl,hcap,hmax,hfew,hg1,hg2,hcells,hall⟩,hr6,hE6⟩
    have HV:Hid (xs.map Ex.bare=l):=hview
    have HK6:=hid (HK5.out.trans hk6)
    have HR6:=hid hr6
    have HE6:=hid hE6
    have HB6:Hid (∀j,v1.cell? ⟨B,j,none⟩=(#[.int .u8 1,.int .i64 t.place,.string t.text,.int .i64 0,.int .i64 0,.slice none 0 0]:Array Value)[j]?∧v1.frozen? ⟨B,j,none⟩=false):=fun j=>⟨(HK6.out.cell HBB.out.2.2 HBB.out.2.1).1.trans (HC3.out j).1,(HK6.out.cell HBB.out.2.2 HBB.out.2.1).2.trans (HC3.out j).2⟩
    have b0:v1.cell? ⟨B,0,none⟩=some (.int .u8 1):=(HB6.out 0).1
    have b5:v1.cell? ⟨B,5,none⟩=some (.slice none 0 0):=(HB6.out 5).1
    have f0:=(HB6.out 0).2
    have f5:=(HB6.out 5).2
    have hlt:=Nat.lt_of_lt_of_le HBB.out.2.2 HK6.out.size
    have HgB:Hid (w.heap.size<g∧B<g):=by
     have h1:=HK5.out.size
     have h2:=HBB.out
     exact⟨by omega,by omega⟩
    have HQ:Hid (Lies (fun k=>w.heap.size<k∧k≠B) v1 ⟨4,t.place,t.text,0,0,some ⟨g,0,none⟩,cap,xs⟩):=by
     refine(lies_row (Q:=fun k=>v0.heap.size≤k) xs hg1 hg2 hcells fun x hx=>(hall x hx).1).mono fun k _ (hq:v0.heap.size≤k)=>?_
     have h1:=HK5.out.size
     have h2:=HBB.out
     exact⟨by omega,by omega⟩
    have HGo:Hid (Ex.good ⟨4,t.place,t.text,0,0,some ⟨g,0,none⟩,cap,xs⟩):=⟨⟨by decide,HFine.out.2.2,Nat.le_trans HFine.out.1 (by decide),by decide,by decide,hcap,hmax⟩,goods_all xs fun x hx=>(hall x hx).2⟩
    obtain⟨w7,hw7⟩:=nw ((v1.setCell ⟨B,0,none⟩ (.int .u8 4)).setCell ⟨B,5,none⟩ (.slice (some ⟨g,0,none⟩) xs.length cap))
    have HKs:Hid (KeepsB R w0 w7):=by
     rw[Hid,hw7]
     exact((HK3.out.trans HK6.out).new (by have:=HBB.out;have:=HS0.out;omega)).new (by have:=HBB.out;have:=HS0.out;omega)
    have HR7:Hid (RdAt W0 R t6 (op+1) w7):=by
     rw[Hid,hw7]
     exact(HR6.out.other (by have:=HRd.out;have:=HBB.out;omega)).other (by have:=HRd.out;have:=HBB.out;omega)
    have HL7:Hid (Lies (fun k=>w.heap.size<k∧k≠B) w7 ⟨4,t.place,t.text,0,0,some ⟨g,0,none⟩,cap,xs⟩):=by
     rw[Hid,hw7]
     exact(HQ.out.keep (KeepsQ.set fun h=>h.2 rfl)).keep (KeepsQ.set fun h=>h.2 rfl)
    have HC7:Hid (∀j,j<6→w7.cell? ⟨B,j,none⟩=[.int .u8 4,.int .i64 t.place,.string t.text,.int .i64 0,.int .i64 0,.slice (some ⟨g,0,none⟩) xs.length cap][j]?):=by
     rw[Hid,hw7]
     intro j hj
     match j,hj with
     | 0,_=>rw[World.cell?_setCell_other _ _ _ _ (by simp)];exact World.cell?_setCell_same _ _ _ b0
     | 1,_=>rw[World.cell?_setCell_other _ _ _ _ (by simp),World.cell?_setCell_other _ _ _ _ (by simp)];exact(HB6.out 1).1
     | 2,_=>rw[World.cell?_setCell_other _ _ _ _ (by simp),World.cell?_setCell_other _ _ _ _ (by simp)];exact(HB6.out 2).1
     | 3,_=>rw[World.cell?_setCell_other _ _ _ _ (by simp),World.cell?_setCell_other _ _ _ _ (by simp)];exact(HB6.out 3).1
     | 4,_=>rw[World.cell?_setCell_other _ _ _ _ (by simp),World.cell?_setCell_other _ _ _ _ (by simp)];exact(HB6.out 4).1
     | 5,_=>exact World.cell?_setCell_same _ _ _ (by rw[World.cell?_setCell_other _ _ _ _ (by simp)];exact b5)
    have HB7:Hid (B<w7.heap.size):=by rw[Hid,hw7];simpa using hlt
    have HW7:=hid hw7.symm
    obtain⟨u,r6,rfl⟩:=HE6.out.ne
    have CW:=want_all ⟨#[41]⟩ (by decide) HR7.out HE6.out
    generalize wantT ⟨#[41]⟩ (u::r6)=q at CW HRes3
    clear C6 hk6 hview hcap hmax hfew hg1 hg2 hcells hall hr6 hE6 hw7
    simp only[rp] at CW
    go_wp2_with fail
    rw[HW7.out]
    refine CW.mono ?_
    rintro x v2 ⟨hk8,hp⟩
    have HK8:=hid hk8
    have HKE:=hid (HKs.out.trans hk8)
    clear CW hk8 b0 b5 f0 f5 hlt
    cases q with
    | error er =>
     obtain⟨kk,ee⟩:=er
     obtain⟨rfl,t9,hr9⟩:=hp
     have HRE:Hid _:=hr9
     have HResE:Hid (res=.error (kk,ee)):=HRes3.out
     clear hr9
     go_wp2_with fail
     refine leaves_cons (f:=65) (args:=#[rp R]) (by simp) (by simp[go_sem,rp]) ?_
     refine(leave_d _ HRE.out).mono ?_
     rintro e u' wE ⟨rfl,rfl,hrE,hkE⟩
     show Post W0 R op w res (IsEx w.heap.size) (.panicked [{ v:=badVal kk ee,recovered:=false }]) wE
     rw[HResE.out]
     exact⟨(KeepsB.ofBelow HB0.out).trans (HKE.out.trans hkE),rfl,_,hrE⟩
    | ok pr =>
     obtain⟨u0,t9⟩:=pr
     obtain⟨⟨v,rfl,rfl⟩,hr9,hE9⟩:=hp
     have HRes4:Hid (res=.ok (.mk 4 t.place t.text 0 0 none 0 l,t9)):=HRes3.out
     have HR9:=hid hr9
     have HE9:=hid hE9
     have HO9:=hid (HO0.out.keep HKE.out HneR.out)
     have hown:=HO9.out
     have hltw:=hown.2
     have HL9:Hid (Lies (fun k=>w.heap.size<k∧k≠B) v2 ⟨4,t.place,t.text,0,0,some ⟨g,0,none⟩,cap,xs⟩):=HL7.out.keep (KeepsQ.ofB HK8.out fun h=>by have:=HRd.out.2;omega)
     have qb:∀j,j<6→v2.cell? ⟨B,j,none⟩=[.int .u8 4,.int .i64 t.place,.string t.text,.int .i64 0,.int .i64 0,.slice (some ⟨g,0,none⟩) xs.length cap][j]?:=fun j hj=>(HK8.out.cell HB7.out HBB.out.2.1).1.trans (HC7.out j hj)
     have d0:v2.cell? ⟨B,0,none⟩=some (.int .u8 4):=qb 0 (by omega)
     have d1:v2.cell? ⟨B,1,none⟩=some (.int .i64 t.place):=qb 1 (by omega)
     have d2:v2.cell? ⟨B,2,none⟩=some (.string t.text):=qb 2 (by omega)
     have d3:v2.cell? ⟨B,3,none⟩=some (.int .i64 0):=qb 3 (by omega)
     have d4:v2.cell? ⟨B,4,none⟩=some (.int .i64 0):=qb 4 (by omega)
     have d5:v2.cell? ⟨B,5,none⟩=some (.slice (some ⟨g,0,none⟩) xs.length cap):=qb 5 (by omega)
     have hltB:=Nat.lt_of_lt_of_le HB7.out HK8.out.size
     have hneB:=(Nat.ne_of_lt HBB.out.1).symm
     have z0:v2.cell? ⟨w.heap.size,0,none⟩=some (.int .u8 0):=(hown.1 0).1
     have z1:v2.cell? ⟨w.heap.size,1,none⟩=some (.int .i64 0):=(hown.1 1).1
     have z2:v2.cell? ⟨w.heap.size,2,none⟩=some (.string ⟨#[]⟩):=(hown.1 2).1
     have z3:v2.cell? ⟨w.heap.size,3,none⟩=some (.int .i64 0):=(hown.1 3).1
     have z4:v2.cell? ⟨w.heap.size,4,none⟩=some (.int .i64 0):=(hown.1 4).1
     have z5:v2.cell? ⟨w.heap.size,5,none⟩=some (.slice none 0 0):=(hown.1 5).1
     have g0:=(hown.1 0).2
     have g1:=(hown.1 1).2
     have g2:=(hown.1 2).2
     have g3:=(hown.1 3).2
     have g4:=(hown.1 4).2
     have g5:=(hown.1 5).2
     obtain⟨W9,hW9⟩:=nw (exStore v2 w.heap.size ⟨4,t.place,t.text,0,0,some ⟨g,0,none⟩,cap,xs⟩)
     have HY:Hid (∀j,j<6→W9.cell? ⟨w.heap.size,j,none⟩=[.int .u8 4,.int .i64 t.place,.string t.text,.int .i64 0,.int .i64 0,.slice (some ⟨g,0,none⟩) xs.length cap][j]?):=by rw[Hid,hW9];exact exStore_cell ⟨4,t.place,t.text,0,0,some ⟨g,0,none⟩,cap,xs⟩ fun j=>(hown.1 j).1
     have HR10:Hid (RdAt W0 R t9 (op+1) W9):=by rw[Hid,hW9];exact set6_rd HR9.out HRd.out.1 _ _ _ _ _ _
     have HK10:Hid (KeepsB R w W9):=by rw[Hid,hW9];exact set6_keepsB ((KeepsB.ofBelow HB0.out).trans HKE.out) (Nat.le_refl _) _ _ _ _ _ _
     have HL10:Hid (Lies (fun k=>w.heap.size<k) W9 ⟨4,t.place,t.text,0,0,some ⟨g,0,none⟩,cap,xs⟩):=by rw[Hid,hW9];exact(HL9.out.mono fun k _ h=>h.1).keep (set6_keepsQ (fun h=>Nat.lt_irrefl _ h) _ _ _ _ _ _)
     have HS10:Hid (w.heap.size<W9.heap.size):=by rw[Hid,hW9,exStore,set6_size];exact hltw
     have HW9:Hid (((((((v2.setCell ⟨w.heap.size,0,none⟩ (.int .u8 4)).setCell ⟨w.heap.size,1,none⟩ (.int .i64 t.place)).setCell ⟨w.heap.size,2,none⟩ (.string t.text)).setCell ⟨w.heap.size,3,none⟩ (.int .i64 0)).setCell ⟨w.heap.size,4,none⟩ (.int .i64 0)).setCell ⟨w.heap.size,5,none⟩ (.slice (some ⟨g,0,none⟩) xs.length cap))=W9):=hW9.symm
     clear hr9 hE9 hown qb hW9
     go_wp2_with fail
     rw[HW9.out]
     clear z0 z1 z2 z3 z4 z5 g0 g1 g2 g3 g4 g5 d0 d1 d2 d3 d4 d5
     refine leaves_cons (f:=65) (args:=#[rp R]) (by simp) (by simp[go_sem,rp]) ?_
     refine(leave_d _ HR10.out).mono ?_
     rintro e u' w11 ⟨rfl,rfl,hr11,hk11⟩
     have hy:∀j,j<6→w11.cell? ⟨w.heap.size,j,none⟩=[.int .u8 4,.int .i64 t.place,.string t.text,.int .i64 0,.int .i64 0,.slice (some ⟨g,0,none⟩) xs.length cap][j]?:=fun j hj=>(hk11.cell HS10.out HneR.out).1.trans (HY.out j hj)
     have z0:w11.cell? ⟨w.heap.size,0,none⟩=some (.int .u8 4):=hy 0 (by omega)
     have z1:w11.cell? ⟨w.heap.size,1,none⟩=some (.int .i64 t.place):=hy 1 (by omega)
     have z2:w11.cell? ⟨w.heap.size,2,none⟩=some (.string t.text):=hy 2 (by omega)
     have z3:w11.cell? ⟨w.heap.size,3,none⟩=some (.int .i64 0):=hy 3 (by omega)
     have z4:w11.cell? ⟨w.heap.size,4,none⟩=some (.int .i64 0):=hy 4 (by omega)
     have z5:w11.cell? ⟨w.heap.size,5,none⟩=some (.slice (some ⟨g,0,none⟩) xs.length cap):=hy 5 (by omega)
     have HPost:Hid (Post W0 R op w res (IsEx w.heap.size) (.returned (.agg #[.int .u8 4,.int .i64 t.place,.string t.text,.int .i64 0,.int .i64 0,.slice (some ⟨g,0,none⟩) xs.length cap])) w11):=by
      rw[Hid,HRes4.out]
      refine⟨HK10.out.trans hk11,⟨_,rfl,⟨4,t.place,t.text,0,0,some ⟨g,0,none⟩,cap,xs⟩,?_,rfl,?_,HGo.out⟩,hr11,HE9.out⟩
      ·rw[Ex.bare,bares_map,HV.out]
      ·exact(HL10.out.keep (KeepsQ.ofB hk11 (fun h=>by have:=HRd.out.2;omega))).mono fun k _ h=>Nat.le_of_lt h
     clear hy hr11 hk11
     refine⟨_,by simp[results,Tryz.results178,go_sem, *];try rfl,HPost.out⟩
 ·rw[decide_eq_false hop] at CI
  have HRes1:=hid (HRes.out.trans (if_neg hop))
  clear hop HRes
  go_wp2_with fail
  rw[HW3.out]
  simp only[←hB]
  clear hB
  refine CI.mono ?_
  rintro x u1 ⟨rfl,hb4⟩
  have HK4:Hid (KeepsB R w3 u1):=KeepsB.ofBelow hb4
  have HKE:=hid (HK3.out.trans HK4.out)
  have HR4:=hid (HR3.out.below hb4)
  clear CI hb4
  have HO9:=hid (HO0.out.keep HKE.out HneR.out)
  have hown:=HO9.out
  have hltw:=hown.2
  have qb:∀j,j<6→u1.cell? ⟨B,j,none⟩=(#[.int .u8 1,.int .i64 t.place,.string t.text,.int .i64 0,.int .i64 0,.slice none 0 0]:Array Value)[j]?:=fun j _=>(HK4.out.cell HBB.out.2.2 HBB.out.2.1).1.trans (HC3.out j).1
  have d0:u1.cell? ⟨B,0,none⟩=some (.int .u8 1):=qb 0 (by omega)
  have d1:u1.cell? ⟨B,1,none⟩=some (.int .i64 t.place):=qb 1 (by omega)
  have d2:u1.cell? ⟨B,2,none⟩=some (.string t.text):=qb 2 (by omega)
  have d3:u1.cell? ⟨B,3,none⟩=some (.int .i64 0):=qb 3 (by omega)
  have d4:u1.cell? ⟨B,4,none⟩=some (.int .i64 0):=qb 4 (by omega)
  have d5:u1.cell? ⟨B,5,none⟩=some (.slice none 0 0):=qb 5 (by omega)
  have hltB:=Nat.lt_of_lt_of_le HBB.out.2.2 HK4.out.size
  have hneB:=(Nat.ne_of_lt HBB.out.1).symm
  have z0:u1.cell? ⟨w.heap.size,0,none⟩=some (.int .u8 0):=(hown.1 0).1
  have z1:u1.cell? ⟨w.heap.size,1,none⟩=some (.int .i64 0):=(hown.1 1).1
  have z2:u1.cell? ⟨w.heap.size,2,none⟩=some (.string ⟨#[]⟩):=(hown.1 2).1
  have z3:u1.cell? ⟨w.heap.size,3,none⟩=some (.int .i64 0):=(hown.1 3).1
  have z4:u1.cell? ⟨w.heap.size,4,none⟩=some (.int .i64 0):=(hown.1 4).1
  have z5:u1.cell? ⟨w.heap.size,5,none⟩=some (.slice none 0 0):=(hown.1 5).1
  have g0:=(hown.1 0).2
  have g1:=(hown.1 1).2
  have g2:=(hown.1 2).2
  have g3:=(hown.1 3).2
  have g4:=(hown.1 4).2
  have g5:=(hown.1 5).2
  have HP:Hid _:=post_ex (x:=⟨1,t.place,t.text,0,0,none,0,[]⟩) HRd.out.1 ((KeepsB.ofBelow HB0.out).trans HKE.out) HR4.out HE2.out (show Lies (fun k=>w.heap.size<k) u1 ⟨1,t.place,t.text,0,0,none,0,[]⟩ from fun _ _=>⟨0,0,fun h=>absurd rfl h,trivial⟩) ⟨⟨by decide,HFine.out.2.2,Nat.le_trans HFine.out.1 (by decide),by decide,by decide,Nat.le_refl _,by decide⟩,trivial⟩
  have HY:Hid _:=exStore_cell ⟨1,t.place,t.text,0,0,none,0,[]⟩ fun j=>(hown.1 j).1
  obtain⟨W9,hW9⟩:=nw (exStore u1 w.heap.size ⟨1,t.place,t.text,0,0,none,0,[]⟩)
  rw[←hW9] at HP HY
  have HW9:Hid (((((((u1.setCell ⟨w.heap.size,0,none⟩ (.int .u8 1)).setCell ⟨w.heap.size,1,none⟩ (.int .i64 t.place)).setCell ⟨w.heap.size,2,none⟩ (.string t.text)).setCell ⟨w.heap.size,3,none⟩ (.int .i64 0)).setCell ⟨w.heap.size,4,none⟩ (.int .i64 0)).setCell ⟨w.heap.size,5,none⟩ (.slice none 0 0))=W9):=hW9.symm
  clear hW9 hown qb
  go_wp2_with fail
  rw[HW9.out]
  clear z0 z1 z2 z3 z4 z5 d0 d1 d2 d3 d4 d5
  have z0:W9.cell? ⟨w.heap.size,0,none⟩=some (.int .u8 1):=HY.out 0 (by omega)
  have z1:W9.cell? ⟨w.heap.size,1,none⟩=some (.int .i64 t.place):=HY.out 1 (by omega)
  have z2:W9.cell? ⟨w.heap.size,2,none⟩=some (.string t.text):=HY.out 2 (by omega)
  have z3:W9.cell? ⟨w.heap.size,3,none⟩=some (.int .i64 0):=HY.out 3 (by omega)
  have z4:W9.cell? ⟨w.heap.size,4,none⟩=some (.int .i64 0):=HY.out 4 (by omega)
  have z5:W9.cell? ⟨w.heap.size,5,none⟩=some (.slice none 0 0):=HY.out 5 (by omega)
  have HPost:Hid (Post W0 R op w res (IsEx w.heap.size) (.returned (.agg #[.int .u8 1,.int .i64 t.place,.string t.text,.int .i64 0,.int .i64 0,.slice none 0 0])) W9):=by rw[Hid,HRes1.out];exact HP.out
  refine⟨_,by simp[results,Tryz.results178,go_sem, *];try rfl,HPost.out⟩
def parA(n op:Nat)(ts:List Tok):PR Ex:=(pp n 0 (op+1) ts).then fun a t2=>(wantT ⟨#[41]⟩ t2).then fun _ t3=>.ok (a,t3)
theorem pp_atom(n op:Nat)(t:Tok)(ts:List Tok):pp (n+1) 10 op (t::ts)=if t.kind=2 then .ok (leafE 2 t.place t.int,ts) else if t.kind=1 then nameA n op t ts else if t.text=⟨#[116,114,117,101]⟩ then .ok (leafE 3 t.place 1,ts) else if t.text=⟨#[102,97,108,115,101]⟩ then .ok (leafE 3 t.place 0,ts) else if t.text=⟨#[40]⟩ then openT op (t::ts) (parA n op) else .error ((t.place:Nat),60):=rfl
set_option maxRecDepth 100000 in
set_option maxHeartbeats 6400000 in
theorem atom_int{W0:World}{R:Nat}(n:Nat)(hpe:DoesE W0 R 34 (pp n 0))(hlen:∀op ts e t2,pp n 0 op ts=.ok (e,t2)→t2.length≤ts.length)(op:Nat)(t:Tok)(ts:List Tok)(w:World)(hk:t.kind=2)(hE:Ends (t::ts))(hrd:RdAt W0 R (t::ts) op w)(res:PR Ex)(hres:res=.ok (leafE 2 t.place t.int,ts))(hns:∀k,res≠.error (k,0)) :
  Calls Tryz.prog 174 #[rp R] w (Post W0 R op w res (IsEx w.heap.size)):=by
 obtain⟨w0,hw0⟩:∃w0:World,w0=w.alloc (.cells #[.int .u8 0,.int .i64 0,.string ⟨#[]⟩,.int .i64 0,.int .i64 0,.slice none 0 0] 27):=⟨_,rfl⟩
 have hb0:Below w.heap.size w w0:=by rw[hw0];exact bal _
 have HS0:Hid (w0.heap.size=w.heap.size+1):=by rw[Hid,hw0];simp
 have HO0:Hid (Own w0 w.heap.size):=by rw[Hid,hw0];exact Own.made w _ rfl
 have HW0:=hid hw0.symm
 have HB0:=hid hb0
 have HRd:Hid (W0.heap.size≤w.heap.size∧R<w.heap.size):=⟨hrd.keeps.size,hrd.lt⟩
 have HneR:Hid (w.heap.size≠R):=by have:=hrd.lt;rw[Hid];omega
 have HLe:=hid (hrd.le)
 have HFine:Hid t.fine:=hE.fine
 have HE:=hid hE
 have HR0:=hid (hrd.below hb0)
 have HK0:Hid (KeepsB R w0 w0):=KeepsB.refl _ _
 have HRes:=hid hres
 have HNs:=hid hns
 have HM:=hid hpe
 have HLen:=hid hlen
 obtain⟨hE2,t',r',rfl⟩:=hE.more (Or.inl (by rw[hk];decide))
 have HE2:=hid hE2
 clear hE2
 clear hpe hlen hE hrd hres hns hw0 hb0
 have Ca1:=next_rd HR0.out
 simp only[rp,tkVal,tkCells] at Ca1 ⊢
 go_enter_defers Tryz.func174,Tryz.ntmps174
 go_wp2_with fail
 rw[HW0.out]
 refine Ca1.mono ?_
 rintro x a1 ⟨rfl,hb⟩
 have HRa1:=hid (HR0.out.below hb)
 have HKa1:=hid (HK0.out.trans (KeepsB.ofBelow hb))
 clear Ca1 hb
 have Ca2:=next_rd HRa1.out
 simp only[rp,tkVal,tkCells] at Ca2
 rw[hk] at Ca2
 go_wp2_with fail
 refine Ca2.mono ?_
 rintro x a2 ⟨rfl,hb⟩
 have HRa2:=hid (HRa1.out.below hb)
 have HKa2:=hid (HKa1.out.trans (KeepsB.ofBelow hb))
 clear Ca2 hb
 have Ca3:=take_rd HRa2.out
 simp only[rp,tkVal,tkCells] at Ca3
 go_wp2_with fail
 refine Ca3.mono ?_
 rintro x a3 ⟨rfl,hr,hk3⟩
 have HRa3:=hid hr
 have HKa3:=hid (HKa2.out.trans hk3)
 clear Ca3 hr hk3
 have HO9:=hid (HO0.out.keep HKa3.out HneR.out)
 have hown:=HO9.out
 have hltw:=hown.2
 have z0:a3.cell? ⟨w.heap.size,0,none⟩=some (.int .u8 0):=(hown.1 0).1
 have z1:a3.cell? ⟨w.heap.size,1,none⟩=some (.int .i64 0):=(hown.1 1).1
 have z2:a3.cell? ⟨w.heap.size,2,none⟩=some (.string ⟨#[]⟩):=(hown.1 2).1
 have z3:a3.cell? ⟨w.heap.size,3,none⟩=some (.int .i64 0):=(hown.1 3).1
 have z4:a3.cell? ⟨w.heap.size,4,none⟩=some (.int .i64 0):=(hown.1 4).1
 have z5:a3.cell? ⟨w.heap.size,5,none⟩=some (.slice none 0 0):=(hown.1 5).1
 have g0:=(hown.1 0).2
 have g1:=(hown.1 1).2
 have g2:=(hown.1 2).2
 have g3:=(hown.1 3).2
 have g4:=(hown.1 4).2
 have g5:=(hown.1 5).2
 have HP:Hid _:=post_ex (x:=⟨2,t.place,⟨#[]⟩,t.int,0,none,0,[]⟩) HRd.out.1 ((KeepsB.ofBelow HB0.out).trans HKa3.out) HRa3.out HE2.out (show Lies (fun k=>w.heap.size<k) a3 ⟨2,t.place,⟨#[]⟩,t.int,0,none,0,[]⟩ from fun _ _=>⟨0,0,fun h=>absurd rfl h,trivial⟩) ⟨⟨by decide,HFine.out.2.2,by decide +kernel,HFine.out.2.1,by decide,Nat.le_refl _,by decide⟩,trivial⟩
 have HY:Hid _:=exStore_cell ⟨2,t.place,⟨#[]⟩,t.int,0,none,0,[]⟩ fun j=>(hown.1 j).1
 obtain⟨W9,hW9⟩:∃W9,W9=exStore a3 w.heap.size ⟨2,t.place,⟨#[]⟩,t.int,0,none,0,[]⟩:=⟨_,rfl⟩
 rw[←hW9] at HP HY
 have HW9:Hid (((((((a3.setCell ⟨w.heap.size,0,none⟩ (.int .u8 2)).setCell ⟨w.heap.size,1,none⟩ (.int .i64 t.place)).setCell ⟨w.heap.size,2,none⟩ (.string ⟨#[]⟩)).setCell ⟨w.heap.size,3,none⟩ (.int .i64 t.int)).setCell ⟨w.heap.size,4,none⟩ (.int .i64 0)).setCell ⟨w.heap.size,5,none⟩ (.slice none 0 0))=W9):=hW9.symm
 clear hW9 hown
 go_wp2_with fail
 rw[HW9.out]
 clear z0 z1 z2 z3 z4 z5
 have z0:W9.cell? ⟨w.heap.size,0,none⟩=some (.int .u8 2):=HY.out 0 (by omega)
 have z1:W9.cell? ⟨w.heap.size,1,none⟩=some (.int .i64 t.place):=HY.out 1 (by omega)
 have z2:W9.cell? ⟨w.heap.size,2,none⟩=some (.string ⟨#[]⟩):=HY.out 2 (by omega)
 have z3:W9.cell? ⟨w.heap.size,3,none⟩=some (.int .i64 t.int):=HY.out 3 (by omega)
 have z4:W9.cell? ⟨w.heap.size,4,none⟩=some (.int .i64 0):=HY.out 4 (by omega)
 have z5:W9.cell? ⟨w.heap.size,5,none⟩=some (.slice none 0 0):=HY.out 5 (by omega)
 have HPost:Hid (Post W0 R op w res (IsEx w.heap.size) (.returned (.agg #[.int .u8 2,.int .i64 t.place,.string ⟨#[]⟩,.int .i64 t.int,.int .i64 0,.slice none 0 0])) W9):=by rw[Hid,HRes.out];exact HP.out
 refine⟨_,by simp[results,Tryz.results174,go_sem, *];try rfl,HPost.out⟩
set_option maxRecDepth 100000 in
set_option maxHeartbeats 6400000 in
theorem atom_name{W0:World}{R:Nat}(n:Nat)(hpe:DoesE W0 R 34 (pp n 0))(hlen:∀op ts e t2,pp n 0 op ts=.ok (e,t2)→t2.length≤ts.length)(op:Nat)(t:Tok)(ts:List Tok)(w:World)(hk1:t.kind=1)(hE:Ends (t::ts))(hrd:RdAt W0 R (t::ts) op w)(res:PR Ex)(hres:res=nameA n op t ts)(hns:∀k,res≠.error (k,0)) :
  Calls Tryz.prog 174 #[rp R] w (Post W0 R op w res (IsEx w.heap.size)):=by
 obtain⟨w0,hw0⟩:∃w0:World,w0=w.alloc (.cells #[.int .u8 0,.int .i64 0,.string ⟨#[]⟩,.int .i64 0,.int .i64 0,.slice none 0 0] 27):=⟨_,rfl⟩
 have hb0:Below w.heap.size w w0:=by rw[hw0];exact bal _
 have HS0:Hid (w0.heap.size=w.heap.size+1):=by rw[Hid,hw0];simp
 have HO0:Hid (Own w0 w.heap.size):=by rw[Hid,hw0];exact Own.made w _ rfl
 have HW0:=hid hw0.symm
 have HB0:=hid hb0
 have HRd:Hid (W0.heap.size≤w.heap.size∧R<w.heap.size):=⟨hrd.keeps.size,hrd.lt⟩
 have HneR:Hid (w.heap.size≠R):=by have:=hrd.lt;rw[Hid];omega
 have HLe:=hid (hrd.le)
 have HFine:Hid t.fine:=hE.fine
 have HE:=hid hE
 have HR0:=hid (hrd.below hb0)
 have HK0:Hid (KeepsB R w0 w0):=KeepsB.refl _ _
 have HRes:=hid hres
 have HNs:=hid hns
 have HM:=hid hpe
 have HLen:=hid hlen
 clear hpe hlen hE hrd hres hns hw0 hb0
 have Ca1:=next_rd HR0.out
 simp only[rp,tkVal,tkCells] at Ca1 ⊢
 go_enter_defers Tryz.func174,Tryz.ntmps174
 go_wp2_with fail
 rw[HW0.out]
 refine Ca1.mono ?_
 rintro x a1 ⟨rfl,hb⟩
 have HRa1:=hid (HR0.out.below hb)
 have HKa1:=hid (HK0.out.trans (KeepsB.ofBelow hb))
 clear Ca1 hb
 have Ca2:=next_rd HRa1.out
 simp only[rp,tkVal,tkCells] at Ca2
 rw[hk1] at Ca2
 go_wp2_with fail
 refine Ca2.mono ?_
 rintro x a2 ⟨rfl,hb⟩
 have HRa2:=hid (HRa1.out.below hb)
 have HKa2:=hid (HKa1.out.trans (KeepsB.ofBelow hb))
 clear Ca2 hb
 have Ca3:=next_rd HRa2.out
 simp only[rp,tkVal,tkCells] at Ca3
 rw[hk1] at Ca3
 go_wp2_with fail
 refine Ca3.mono ?_
 rintro x a3 ⟨rfl,hb⟩
 have HRa3:=hid (HRa2.out.below hb)
 have HKa3:=hid (HKa2.out.trans (KeepsB.ofBelow hb))
 clear Ca3 hb
 have CC:=named_rd n HM.out HLen.out op t ts a3 hk1 HE.out HRa3.out res HRes.out HNs.out
 simp only[rp] at CC
 go_wp2_with fail
 refine CC.mono ?_
 rintro x v1 ⟨hk,hp⟩
 have HKE:=hid (HKa3.out.trans hk)
 clear CC hk HRes
 cases res with
 | error er =>
  obtain⟨kk,ee⟩:=er
  obtain⟨rfl,t2,hr2⟩:=hp
  have HR2:Hid _:=hr2
  clear hr2
  go_wp2_with fail
  show Post W0 R op w (.error (kk,ee)) (IsEx w.heap.size) (.panicked [{ v:=badVal kk ee,recovered:=false }]) v1
  exact⟨(KeepsB.ofBelow HB0.out).trans HKE.out,rfl,t2,HR2.out⟩
 | ok pr =>
  obtain⟨e1,t1⟩:=pr
  obtain⟨⟨v,rfl,xa,rfl,rfl,hl,hg⟩,hr1,hE1⟩:=hp
  have HL:Hid (Lies (fun k=>w.heap.size<k) v1 xa):=hl.mono fun k _ (h:a3.heap.size≤k)=>show w.heap.size<k by have:=HKa3.out.size;have:=HS0.out;omega
  have HG:Hid xa.good:=hg
  have HR1:=hid hr1
  have HE1:=hid hE1
  clear hl hg hr1 hE1
  obtain⟨ka,pa,na,ia,da,aa,ca,la⟩:=xa
  simp only[Ex.val,Ex.cells]
  have HO9:=hid (HO0.out.keep HKE.out HneR.out)
  have hown:=HO9.out
  have hltw:=hown.2
  have z0:v1.cell? ⟨w.heap.size,0,none⟩=some (.int .u8 0):=(hown.1 0).1
  have z1:v1.cell? ⟨w.heap.size,1,none⟩=some (.int .i64 0):=(hown.1 1).1
  have z2:v1.cell? ⟨w.heap.size,2,none⟩=some (.string ⟨#[]⟩):=(hown.1 2).1
  have z3:v1.cell? ⟨w.heap.size,3,none⟩=some (.int .i64 0):=(hown.1 3).1
  have z4:v1.cell? ⟨w.heap.size,4,none⟩=some (.int .i64 0):=(hown.1 4).1
  have z5:v1.cell? ⟨w.heap.size,5,none⟩=some (.slice none 0 0):=(hown.1 5).1
  have g0:=(hown.1 0).2
  have g1:=(hown.1 1).2
  have g2:=(hown.1 2).2
  have g3:=(hown.1 3).2
  have g4:=(hown.1 4).2
  have g5:=(hown.1 5).2
  have HP:Hid _:=post_ex (x:=⟨ka,pa,na,ia,da,aa,ca,la⟩) HRd.out.1 ((KeepsB.ofBelow HB0.out).trans HKE.out) HR1.out HE1.out (show Lies (fun k=>w.heap.size<k) v1 ⟨ka,pa,na,ia,da,aa,ca,la⟩ from HL.out) HG.out
  have HY:Hid _:=exStore_cell ⟨ka,pa,na,ia,da,aa,ca,la⟩ fun j=>(hown.1 j).1
  obtain⟨W9,hW9⟩:=nw (exStore v1 w.heap.size ⟨ka,pa,na,ia,da,aa,ca,la⟩)
  rw[←hW9] at HP HY
  have HW9:Hid (((((((v1.setCell ⟨w.heap.size,0,none⟩ (.int .u8 ka)).setCell ⟨w.heap.size,1,none⟩ (.int .i64 pa)).setCell ⟨w.heap.size,2,none⟩ (.string na)).setCell ⟨w.heap.size,3,none⟩ (.int .i64 ia)).setCell ⟨w.heap.size,4,none⟩ (.int .i64 da)).setCell ⟨w.heap.size,5,none⟩ (.slice aa la.length ca))=W9):=hW9.symm
  clear hW9 hown
  go_wp2_with fail
  rw[HW9.out]
  clear z0 z1 z2 z3 z4 z5
  have z0:W9.cell? ⟨w.heap.size,0,none⟩=some (.int .u8 ka):=HY.out 0 (by omega)
  have z1:W9.cell? ⟨w.heap.size,1,none⟩=some (.int .i64 pa):=HY.out 1 (by omega)
  have z2:W9.cell? ⟨w.heap.size,2,none⟩=some (.string na):=HY.out 2 (by omega)
  have z3:W9.cell? ⟨w.heap.size,3,none⟩=some (.int .i64 ia):=HY.out 3 (by omega)
  have z4:W9.cell? ⟨w.heap.size,4,none⟩=some (.int .i64 da):=HY.out 4 (by omega)
  have z5:W9.cell? ⟨w.heap.size,5,none⟩=some (.slice aa la.length ca):=HY.out 5 (by omega)
  have HPost:Hid (Post W0 R op w (.ok (Ex.bare ⟨ka,pa,na,ia,da,aa,ca,la⟩,t1)) (IsEx w.heap.size) (.returned (.agg #[.int .u8 ka,.int .i64 pa,.string na,.int .i64 ia,.int .i64 da,.slice aa la.length ca])) W9):=HP.out
  refine⟨_,by simp[results,Tryz.results174,go_sem, *];try rfl,HPost.out⟩
set_option maxRecDepth 100000 in
set_option maxHeartbeats 6400000 in
theorem atom_true{W0:World}{R:Nat}(n:Nat)(hpe:DoesE W0 R 34 (pp n 0))(hlen:∀op ts e t2,pp n 0 op ts=.ok (e,t2)→t2.length≤ts.length)(op:Nat)(t:Tok)(ts:List Tok)(w:World)(hk:¬t.kind=2)(hk1:¬t.kind=1)(ht:t.text=⟨#[116,114,117,101]⟩)(hE:Ends (t::ts))(hrd:RdAt W0 R (t::ts) op w)(res:PR Ex)(hres:res=.ok (leafE 3 t.place 1,ts))(hns:∀k,res≠.error (k,0)) :
  Calls Tryz.prog 174 #[rp R] w (Post W0 R op w res (IsEx w.heap.size)):=by
 obtain⟨w0,hw0⟩:∃w0:World,w0=w.alloc (.cells #[.int .u8 0,.int .i64 0,.string ⟨#[]⟩,.int .i64 0,.int .i64 0,.slice none 0 0] 27):=⟨_,rfl⟩
 have hb0:Below w.heap.size w w0:=by rw[hw0];exact bal _
 have HS0:Hid (w0.heap.size=w.heap.size+1):=by rw[Hid,hw0];simp
 have HO0:Hid (Own w0 w.heap.size):=by rw[Hid,hw0];exact Own.made w _ rfl
 have HW0:=hid hw0.symm
 have HB0:=hid hb0
 have HRd:Hid (W0.heap.size≤w.heap.size∧R<w.heap.size):=⟨hrd.keeps.size,hrd.lt⟩
 have HneR:Hid (w.heap.size≠R):=by have:=hrd.lt;rw[Hid];omega
 have HLe:=hid (hrd.le)
 have HFine:Hid t.fine:=hE.fine
 have HE:=hid hE
 have HR0:=hid (hrd.below hb0)
 have HK0:Hid (KeepsB R w0 w0):=KeepsB.refl _ _
 have HRes:=hid hres
 have HNs:=hid hns
 have HM:=hid hpe
 have HLen:=hid hlen
 have hkb:=beq_false_of_ne hk
 have hkb1:=beq_false_of_ne hk1
 clear hpe hlen hE hrd hres hns hw0 hb0
 have Ca1:=next_rd HR0.out
 simp only[rp,tkVal,tkCells] at Ca1 ⊢
 go_enter_defers Tryz.func174,Tryz.ntmps174
 go_wp2_with fail
 rw[HW0.out]
 refine Ca1.mono ?_
 rintro x a1 ⟨rfl,hb⟩
 have HRa1:=hid (HR0.out.below hb)
 have HKa1:=hid (HK0.out.trans (KeepsB.ofBelow hb))
 clear Ca1 hb
 have Ca2:=next_rd HRa1.out
 simp only[rp,tkVal,tkCells] at Ca2
 go_wp2_with fail
 refine Ca2.mono ?_
 rintro x a2 ⟨rfl,hb⟩
 have HRa2:=hid (HRa1.out.below hb)
 have HKa2:=hid (HKa1.out.trans (KeepsB.ofBelow hb))
 clear Ca2 hb
 have Ca3:=next_rd HRa2.out
 simp only[rp,tkVal,tkCells] at Ca3
 go_wp2_with fail
 refine Ca3.mono ?_
 rintro x a3 ⟨rfl,hb⟩
 have HRa3:=hid (HRa2.out.below hb)
 have HKa3:=hid (HKa2.out.trans (KeepsB.ofBelow hb))
 clear Ca3 hb
 have Ca4:=skip_all ⟨#[116,114,117,101]⟩ (by decide) HRa3.out HE.out
 rw[if_pos ht,decide_eq_true ht] at Ca4
 simp only[rp] at Ca4
 go_wp2_with fail
 refine Ca4.mono ?_
 rintro x a4 ⟨rfl,hk9,hr9,hE9⟩
 have HRa4:=hid hr9
 have HKa4:=hid (HKa3.out.trans hk9)
 have HEa4:=hid hE9
 clear Ca4 hk9 hr9 hE9
 have HO9:=hid (HO0.out.keep HKa4.out HneR.out)
 have hown:=HO9.out
 have hltw:=hown.2
 have z0:a4.cell? ⟨w.heap.size,0,none⟩=some (.int .u8 0):=(hown.1 0).1
 have z1:a4.cell? ⟨w.heap.size,1,none⟩=some (.int .i64 0):=(hown.1 1).1
 have z2:a4.cell? ⟨w.heap.size,2,none⟩=some (.string ⟨#[]⟩):=(hown.1 2).1
 have z3:a4.cell? ⟨w.heap.size,3,none⟩=some (.int .i64 0):=(hown.1 3).1
 have z4:a4.cell? ⟨w.heap.size,4,none⟩=some (.int .i64 0):=(hown.1 4).1
 have z5:a4.cell? ⟨w.heap.size,5,none⟩=some (.slice none 0 0):=(hown.1 5).1
 have g0:=(hown.1 0).2
 have g1:=(hown.1 1).2
 have g2:=(hown.1 2).2
 have g3:=(hown.1 3).2
 have g4:=(hown.1 4).2
 have g5:=(hown.1 5).2
 have HP:Hid _:=post_ex (x:=⟨3,t.place,⟨#[]⟩,1,0,none,0,[]⟩) HRd.out.1 ((KeepsB.ofBelow HB0.out).trans HKa4.out) HRa4.out HEa4.out (show Lies (fun k=>w.heap.size<k) a4 ⟨3,t.place,⟨#[]⟩,1,0,none,0,[]⟩ from fun _ _=>⟨0,0,fun h=>absurd rfl h,trivial⟩) ⟨⟨by decide,HFine.out.2.2,by decide +kernel,by decide,by decide,Nat.le_refl _,by decide⟩,trivial⟩
 have HY:Hid _:=exStore_cell ⟨3,t.place,⟨#[]⟩,1,0,none,0,[]⟩ fun j=>(hown.1 j).1
 obtain⟨W9,hW9⟩:∃W9,W9=exStore a4 w.heap.size ⟨3,t.place,⟨#[]⟩,1,0,none,0,[]⟩:=⟨_,rfl⟩
 rw[←hW9] at HP HY
 have HW9:Hid (((((((a4.setCell ⟨w.heap.size,0,none⟩ (.int .u8 3)).setCell ⟨w.heap.size,1,none⟩ (.int .i64 t.place)).setCell ⟨w.heap.size,2,none⟩ (.string ⟨#[]⟩)).setCell ⟨w.heap.size,3,none⟩ (.int .i64 1)).setCell ⟨w.heap.size,4,none⟩ (.int .i64 0)).setCell ⟨w.heap.size,5,none⟩ (.slice none 0 0))=W9):=hW9.symm
 clear hW9 hown
 go_wp2_with fail
 rw[HW9.out]
 clear z0 z1 z2 z3 z4 z5
 have z0:W9.cell? ⟨w.heap.size,0,none⟩=some (.int .u8 3):=HY.out 0 (by omega)
 have z1:W9.cell? ⟨w.heap.size,1,none⟩=some (.int .i64 t.place):=HY.out 1 (by omega)
 have z2:W9.cell? ⟨w.heap.size,2,none⟩=some (.string ⟨#[]⟩):=HY.out 2 (by omega)
 have z3:W9.cell? ⟨w.heap.size,3,none⟩=some (.int .i64 1):=HY.out 3 (by omega)
 have z4:W9.cell? ⟨w.heap.size,4,none⟩=some (.int .i64 0):=HY.out 4 (by omega)
 have z5:W9.cell? ⟨w.heap.size,5,none⟩=some (.slice none 0 0):=HY.out 5 (by omega)
 have HPost:Hid (Post W0 R op w res (IsEx w.heap.size) (.returned (.agg #[.int .u8 3,.int .i64 t.place,.string ⟨#[]⟩,.int .i64 1,.int .i64 0,.slice none 0 0])) W9):=by rw[Hid,HRes.out];exact HP.out
 refine⟨_,by simp[results,Tryz.results174,go_sem, *];try rfl,HPost.out⟩
set_option maxRecDepth 100000 in
set_option maxHeartbeats 6400000 in
theorem atom_false{W0:World}{R:Nat}(n:Nat)(hpe:DoesE W0 R 34 (pp n 0))(hlen:∀op ts e t2,pp n 0 op ts=.ok (e,t2)→t2.length≤ts.length)(op:Nat)(t:Tok)(ts:List Tok)(w:World)(hk:¬t.kind=2)(hk1:¬t.kind=1)(ht:¬t.text=⟨#[116,114,117,101]⟩)(hf:t.text=⟨#[102,97,108,115,101]⟩)(hE:Ends (t::ts))(hrd:RdAt W0 R (t::ts) op w)(res:PR Ex)(hres:res=.ok (leafE 3 t.place 0,ts))(hns:∀k,res≠.error (k,0)) :
  Calls Tryz.prog 174 #[rp R] w (Post W0 R op w res (IsEx w.heap.size)):=by
 obtain⟨w0,hw0⟩:∃w0:World,w0=w.alloc (.cells #[.int .u8 0,.int .i64 0,.string ⟨#[]⟩,.int .i64 0,.int .i64 0,.slice none 0 0] 27):=⟨_,rfl⟩
 have hb0:Below w.heap.size w w0:=by rw[hw0];exact bal _
 have HS0:Hid (w0.heap.size=w.heap.size+1):=by rw[Hid,hw0];simp
 have HO0:Hid (Own w0 w.heap.size):=by rw[Hid,hw0];exact Own.made w _ rfl
 have HW0:=hid hw0.symm
 have HB0:=hid hb0
 have HRd:Hid (W0.heap.size≤w.heap.size∧R<w.heap.size):=⟨hrd.keeps.size,hrd.lt⟩
 have HneR:Hid (w.heap.size≠R):=by have:=hrd.lt;rw[Hid];omega
 have HLe:=hid (hrd.le)
 have HFine:Hid t.fine:=hE.fine
 have HE:=hid hE
 have HR0:=hid (hrd.below hb0)
 have HK0:Hid (KeepsB R w0 w0):=KeepsB.refl _ _
 have HRes:=hid hres
 have HNs:=hid hns
 have HM:=hid hpe
 have HLen:=hid hlen
 have hkb:=beq_false_of_ne hk
 have hkb1:=beq_false_of_ne hk1
 clear hpe hlen hE hrd hres hns hw0 hb0
 have Ca1:=next_rd HR0.out
 simp only[rp,tkVal,tkCells] at Ca1 ⊢
 go_enter_defers Tryz.func174,Tryz.ntmps174
 go_wp2_with fail
 rw[HW0.out]
 refine Ca1.mono ?_
 rintro x a1 ⟨rfl,hb⟩
 have HRa1:=hid (HR0.out.below hb)
 have HKa1:=hid (HK0.out.trans (KeepsB.ofBelow hb))
 clear Ca1 hb
 have Ca2:=next_rd HRa1.out
 simp only[rp,tkVal,tkCells] at Ca2
 go_wp2_with fail
 refine Ca2.mono ?_
 rintro x a2 ⟨rfl,hb⟩
 have HRa2:=hid (HRa1.out.below hb)
 have HKa2:=hid (HKa1.out.trans (KeepsB.ofBelow hb))
 clear Ca2 hb
 have Ca3:=next_rd HRa2.out
 simp only[rp,tkVal,tkCells] at Ca3
 go_wp2_with fail
 refine Ca3.mono ?_
 rintro x a3 ⟨rfl,hb⟩
 have HRa3:=hid (HRa2.out.below hb)
 have HKa3:=hid (HKa2.out.trans (KeepsB.ofBelow hb))
 clear Ca3 hb
 have Ca4:=skip_all ⟨#[116,114,117,101]⟩ (by decide) HRa3.out HE.out
 rw[if_neg ht,decide_eq_false ht] at Ca4
 simp only[rp] at Ca4
 go_wp2_with fail
 refine Ca4.mono ?_
 rintro x a4 ⟨rfl,hk9,hr9,hE9⟩
 have HRa4:=hid hr9
 have HKa4:=hid (HKa3.out.trans hk9)
 have HEa4:=hid hE9
 clear Ca4 hk9 hr9 hE9
 have Ca5:=skip_all ⟨#[102,97,108,115,101]⟩ (by decide) HRa4.out HE.out
 rw[if_pos hf,decide_eq_true hf] at Ca5
 simp only[rp] at Ca5
 go_wp2_with fail
 refine Ca5.mono ?_
 rintro x a5 ⟨rfl,hk9,hr9,hE9⟩
 have HRa5:=hid hr9
 have HKa5:=hid (HKa4.out.trans hk9)
 have HEa5:=hid hE9
 clear Ca5 hk9 hr9 hE9
 have HO9:=hid (HO0.out.keep HKa5.out HneR.out)
 have hown:=HO9.out
 have hltw:=hown.2
 have z0:a5.cell? ⟨w.heap.size,0,none⟩=some (.int .u8 0):=(hown.1 0).1
 have z1:a5.cell? ⟨w.heap.size,1,none⟩=some (.int .i64 0):=(hown.1 1).1
 have z2:a5.cell? ⟨w.heap.size,2,none⟩=some (.string ⟨#[]⟩):=(hown.1 2).1
 have z3:a5.cell? ⟨w.heap.size,3,none⟩=some (.int .i64 0):=(hown.1 3).1
 have z4:a5.cell? ⟨w.heap.size,4,none⟩=some (.int .i64 0):=(hown.1 4).1
 have z5:a5.cell? ⟨w.heap.size,5,none⟩=some (.slice none 0 0):=(hown.1 5).1
 have g0:=(hown.1 0).2
 have g1:=(hown.1 1).2
 have g2:=(hown.1 2).2
 have g3:=(hown.1 3).2
 have g4:=(hown.1 4).2
 have g5:=(hown.1 5).2
 have HP:Hid _:=post_ex (x:=⟨3,t.place,⟨#[]⟩,0,0,none,0,[]⟩) HRd.out.1 ((KeepsB.ofBelow HB0.out).trans HKa5.out) HRa5.out HEa5.out (show Lies (fun k=>w.heap.size<k) a5 ⟨3,t.place,⟨#[]⟩,0,0,none,0,[]⟩ from fun _ _=>⟨0,0,fun h=>absurd rfl h,trivial⟩) ⟨⟨by decide,HFine.out.2.2,by decide +kernel,by decide,by decide,Nat.le_refl _,by decide⟩,trivial⟩
 have HY:Hid _:=exStore_cell ⟨3,t.place,⟨#[]⟩,0,0,none,0,[]⟩ fun j=>(hown.1 j).1
 obtain⟨W9,hW9⟩:∃W9,W9=exStore a5 w.heap.size ⟨3,t.place,⟨#[]⟩,0,0,none,0,[]⟩:=⟨_,rfl⟩
 rw[←hW9] at HP HY
 have HW9:Hid (((((((a5.setCell ⟨w.heap.size,0,none⟩ (.int .u8 3)).setCell ⟨w.heap.size,1,none⟩ (.int .i64 t.place)).setCell ⟨w.heap.size,2,none⟩ (.string ⟨#[]⟩)).setCell ⟨w.heap.size,3,none⟩ (.int .i64 0)).setCell ⟨w.heap.size,4,none⟩ (.int .i64 0)).setCell ⟨w.heap.size,5,none⟩ (.slice none 0 0))=W9):=hW9.symm
 clear hW9 hown
 go_wp2_with fail
 rw[HW9.out]
 clear z0 z1 z2 z3 z4 z5
 have z0:W9.cell? ⟨w.heap.size,0,none⟩=some (.int .u8 3):=HY.out 0 (by omega)
 have z1:W9.cell? ⟨w.heap.size,1,none⟩=some (.int .i64 t.place):=HY.out 1 (by omega)
 have z2:W9.cell? ⟨w.heap.size,2,none⟩=some (.string ⟨#[]⟩):=HY.out 2 (by omega)
 have z3:W9.cell? ⟨w.heap.size,3,none⟩=some (.int .i64 0):=HY.out 3 (by omega)
 have z4:W9.cell? ⟨w.heap.size,4,none⟩=some (.int .i64 0):=HY.out 4 (by omega)
 have z5:W9.cell? ⟨w.heap.size,5,none⟩=some (.slice none 0 0):=HY.out 5 (by omega)
 have HPost:Hid (Post W0 R op w res (IsEx w.heap.size) (.returned (.agg #[.int .u8 3,.int .i64 t.place,.string ⟨#[]⟩,.int .i64 0,.int .i64 0,.slice none 0 0])) W9):=by rw[Hid,HRes.out];exact HP.out
 refine⟨_,by simp[results,Tryz.results174,go_sem, *];try rfl,HPost.out⟩
set_option maxRecDepth 100000 in
set_option maxHeartbeats 6400000 in
theorem atom_bad{W0:World}{R:Nat}(n:Nat)(hpe:DoesE W0 R 34 (pp n 0))(hlen:∀op ts e t2,pp n 0 op ts=.ok (e,t2)→t2.length≤ts.length)(op:Nat)(t:Tok)(ts:List Tok)(w:World)(hk:¬t.kind=2)(hk1:¬t.kind=1)(ht:¬t.text=⟨#[116,114,117,101]⟩)(hf:¬t.text=⟨#[102,97,108,115,101]⟩)(ho:¬t.text=⟨#[40]⟩)(hE:Ends (t::ts))(hrd:RdAt W0 R (t::ts) op w)(res:PR Ex)(hres:res=.error ((t.place:Nat),60))(hns:∀k,res≠.error (k,0)) :
  Calls Tryz.prog 174 #[rp R] w (Post W0 R op w res (IsEx w.heap.size)):=by
 obtain⟨w0,hw0⟩:∃w0:World,w0=w.alloc (.cells #[.int .u8 0,.int .i64 0,.string ⟨#[]⟩,.int .i64 0,.int .i64 0,.slice none 0 0] 27):=⟨_,rfl⟩
 have hb0:Below w.heap.size w w0:=by rw[hw0];exact bal _
 have HS0:Hid (w0.heap.size=w.heap.size+1):=by rw[Hid,hw0];simp
 have HO0:Hid (Own w0 w.heap.size):=by rw[Hid,hw0];exact Own.made w _ rfl
 have HW0:=hid hw0.symm
 have HB0:=hid hb0
 have HRd:Hid (W0.heap.size≤w.heap.size∧R<w.heap.size):=⟨hrd.keeps.size,hrd.lt⟩
 have HneR:Hid (w.heap.size≠R):=by have:=hrd.lt;rw[Hid];omega
 have HLe:=hid (hrd.le)
 have HFine:Hid t.fine:=hE.fine
 have HE:=hid hE
 have HR0:=hid (hrd.below hb0)
 have HK0:Hid (KeepsB R w0 w0):=KeepsB.refl _ _
 have HRes:=hid hres
 have HNs:=hid hns
 have HM:=hid hpe
 have HLen:=hid hlen
 have hkb:=beq_false_of_ne hk
 have hkb1:=beq_false_of_ne hk1
 clear hpe hlen hE hrd hres hns hw0 hb0
 have Ca1:=next_rd HR0.out
 simp only[rp,tkVal,tkCells] at Ca1 ⊢
 go_enter_defers Tryz.func174,Tryz.ntmps174
 go_wp2_with fail
 rw[HW0.out]
 refine Ca1.mono ?_
 rintro x a1 ⟨rfl,hb⟩
 have HRa1:=hid (HR0.out.below hb)
 have HKa1:=hid (HK0.out.trans (KeepsB.ofBelow hb))
 clear Ca1 hb
 have Ca2:=next_rd HRa1.out
 simp only[rp,tkVal,tkCells] at Ca2
 go_wp2_with fail
 refine Ca2.mono ?_
 rintro x a2 ⟨rfl,hb⟩
 have HRa2:=hid (HRa1.out.below hb)
 have HKa2:=hid (HKa1.out.trans (KeepsB.ofBelow hb))
 clear Ca2 hb
 have Ca3:=next_rd HRa2.out
 simp only[rp,tkVal,tkCells] at Ca3
 go_wp2_with fail
 refine Ca3.mono ?_
 rintro x a3 ⟨rfl,hb⟩
 have HRa3:=hid (HRa2.out.below hb)
 have HKa3:=hid (HKa2.out.trans (KeepsB.ofBelow hb))
 clear Ca3 hb
 have Ca4:=skip_all ⟨#[116,114,117,101]⟩ (by decide) HRa3.out HE.out
 rw[if_neg ht,decide_eq_false ht] at Ca4
 simp only[rp] at Ca4
 go_wp2_with fail
 refine Ca4.mono ?_
 rintro x a4 ⟨rfl,hk9,hr9,hE9⟩
 have HRa4:=hid hr9
 have HKa4:=hid (HKa3.out.trans hk9)
 have HEa4:=hid hE9
 clear Ca4 hk9 hr9 hE9
 have Ca5:=skip_all ⟨#[102,97,108,115,101]⟩ (by decide) HRa4.out HE.out
 rw[if_neg hf,decide_eq_false hf] at Ca5
 simp only[rp] at Ca5
 go_wp2_with fail
 refine Ca5.mono ?_
 rintro x a5 ⟨rfl,hk9,hr9,hE9⟩
 have HRa5:=hid hr9
 have HKa5:=hid (HKa4.out.trans hk9)
 have HEa5:=hid hE9
 clear Ca5 hk9 hr9 hE9
 have CI:=is_rd ⟨#[40]⟩ HRa5.out
 rw[decide_eq_false ho] at CI
 simp only[rp] at CI
 go_wp2_with fail
 refine CI.mono ?_
 rintro x a6 ⟨rfl,hb⟩
 have HRa6:=hid (HRa5.out.below hb)
 have HKa6:=hid (HKa5.out.trans (KeepsB.ofBelow hb))
 clear CI hb
 have CW:=wrong_rd 60 HRa6.out
 simp only[rp,badVal] at CW
 go_wp2_with fail
 refine CW.mono ?_
 rintro x a7 ⟨rfl,hb⟩
 have HB7:=hid hb
 clear CW hb
 go_wp2_with fail
 show Post W0 R op w res (IsEx w.heap.size) (.panicked [{ v:=badVal t.place 60,recovered:=false }]) a7
 rw[HRes.out]
 exact⟨(KeepsB.ofBelow HB0.out).trans (HKa6.out.trans (KeepsB.ofBelow HB7.out)),rfl,_,HRa6.out.below HB7.out⟩
set_option maxRecDepth 100000 in
set_option maxHeartbeats 6400000 in
theorem atom_par{W0:World}{R:Nat}(n:Nat)(hpe:DoesE W0 R 34 (pp n 0))(hlen:∀op ts e t2,pp n 0 op ts=.ok (e,t2)→t2.length≤ts.length)(op:Nat)(t:Tok)(ts:List Tok)(w:World)(hk:¬t.kind=2)(hk1:¬t.kind=1)(ht:¬t.text=⟨#[116,114,117,101]⟩)(hf:¬t.text=⟨#[102,97,108,115,101]⟩)(ho:t.text=⟨#[40]⟩)(hE:Ends (t::ts))(hrd:RdAt W0 R (t::ts) op w)(res:PR Ex)(hres:res=openT op (t::ts) (parA n op))(hns:∀k,res≠.error (k,0)) :
  Calls Tryz.prog 174 #[rp R] w (Post W0 R op w res (IsEx w.heap.size)):=by
 obtain⟨w0,hw0⟩:∃w0:World,w0=w.alloc (.cells #[.int .u8 0,.int .i64 0,.string ⟨#[]⟩,.int .i64 0,.int .i64 0,.slice none 0 0] 27):=⟨_,rfl⟩
 have hb0:Below w.heap.size w w0:=by rw[hw0];exact bal _
 have HS0:Hid (w0.heap.size=w.heap.size+1):=by rw[Hid,hw0];simp
 have HO0:Hid (Own w0 w.heap.size):=by rw[Hid,hw0];exact Own.made w _ rfl
 have HW0:=hid hw0.symm
 have HB0:=hid hb0
 have HRd:Hid (W0.heap.size≤w.heap.size∧R<w.heap.size):=⟨hrd.keeps.size,hrd.lt⟩
 have HneR:Hid (w.heap.size≠R):=by have:=hrd.lt;rw[Hid];omega
 have HLe:=hid (hrd.le)
 have HFine:Hid t.fine:=hE.fine
 have HE:=hid hE
 have HR0:=hid (hrd.below hb0)
 have HK0:Hid (KeepsB R w0 w0):=KeepsB.refl _ _
 have HRes:=hid hres
 have HNs:=hid hns
 have HM:=hid hpe
 have HLen:=hid hlen
 have hkb:(t.kind==2)=false:=beq_false_of_ne hk
 have hkb1:(t.kind==1)=false:=beq_false_of_ne hk1
 obtain⟨hE2,t',r',rfl⟩:=hE.more (Or.inr (by rw[ho];decide))
 have HE2:=hid hE2
 clear hE2
 clear hpe hlen hE hrd hres hns hw0 hb0
 have Ca1:=next_rd HR0.out
 simp only[rp,tkVal,tkCells] at Ca1 ⊢
 go_enter_defers Tryz.func174,Tryz.ntmps174
 go_wp2_with fail
 rw[HW0.out]
 refine Ca1.mono ?_
 rintro x a1 ⟨rfl,hb⟩
 have HRa1:=hid (HR0.out.below hb)
 have HKa1:=hid (HK0.out.trans (KeepsB.ofBelow hb))
 clear Ca1 hb
 have Ca2:=next_rd HRa1.out
 simp only[rp,tkVal,tkCells] at Ca2
 go_wp2_with fail
 refine Ca2.mono ?_
 rintro x a2 ⟨rfl,hb⟩
 have HRa2:=hid (HRa1.out.below hb)
 have HKa2:=hid (HKa1.out.trans (KeepsB.ofBelow hb))
 clear Ca2 hb
 have Ca3:=next_rd HRa2.out
 simp only[rp,tkVal,tkCells] at Ca3
 go_wp2_with fail
 refine Ca3.mono ?_
 rintro x a3 ⟨rfl,hb⟩
 have HRa3:=hid (HRa2.out.below hb)
 have HKa3:=hid (HKa2.out.trans (KeepsB.ofBelow hb))
 clear Ca3 hb
 have Ca4:=skip_all ⟨#[116,114,117,101]⟩ (by decide) HRa3.out HE.out
 rw[if_neg ht,decide_eq_false ht] at Ca4
 simp only[rp] at Ca4
 go_wp2_with fail
 refine Ca4.mono ?_
 rintro x a4 ⟨rfl,hk9,hr9,hE9⟩
 have HRa4:=hid hr9
 have HKa4:=hid (HKa3.out.trans hk9)
 have HEa4:=hid hE9
 clear Ca4 hk9 hr9 hE9
 have Ca5:=skip_all ⟨#[102,97,108,115,101]⟩ (by decide) HRa4.out HE.out
 rw[if_neg hf,decide_eq_false hf] at Ca5
 simp only[rp] at Ca5
 go_wp2_with fail
 refine Ca5.mono ?_
 rintro x a5 ⟨rfl,hk9,hr9,hE9⟩
 have HRa5:=hid hr9
 have HKa5:=hid (HKa4.out.trans hk9)
 have HEa5:=hid hE9
 clear Ca5 hk9 hr9 hE9
 have CI:=is_rd ⟨#[40]⟩ HRa5.out
 rw[decide_eq_true ho] at CI
 simp only[rp] at CI
 go_wp2_with fail
 refine CI.mono ?_
 rintro x a6 ⟨rfl,hb⟩
 have HRa6:=hid (HRa5.out.below hb)
 have HKa6:=hid (HKa5.out.trans (KeepsB.ofBelow hb))
 clear CI hb
 by_cases h200:op=200
 ·subst h200
  have CE:=noenter_rd HRa6.out
  have HRes2:Hid (res=.error (t.place,61)):=HRes.out
  simp only[rp,bad] at CE
  go_wp2_with fail
  refine CE.mono ?_
  rintro x v1 ⟨rfl,hb5⟩
  have HB5:=hid hb5
  clear CE hb5
  go_wp2_with fail
  show Post W0 R 200 w res (IsEx w.heap.size) (.panicked [{ v:=badVal t.place 61,recovered:=false }]) v1
  rw[HRes2.out]
  exact⟨(KeepsB.ofBelow HB0.out).trans (HKa6.out.trans (KeepsB.ofBelow HB5.out)),rfl,_,HRa6.out.below HB5.out⟩
 ·have CE:=enter_rd HRa6.out (by have:=HLe.out;omega)
  have HRes2:Hid (res=parA n op (t'::r')):=by rw[Hid,HRes.out,openT,if_neg h200];rfl
  have HN2 : Hid (∀ k, pp n 0 (op + 1) (t' :: r') ≠ .error (k, 0)) := fun k h => HNs.out k (by rw [HRes2.out, parA, h]; rfl)
  clear HRes
  simp only[rp,tkVal,tkCells] at CE
  go_wp2_with fail
  refine CE.mono ?_
  rintro x v0 ⟨rfl,hr5,hk5⟩
  have HR5:=hid hr5
  have HK5:=hid (HKa6.out.trans hk5)
  clear CE hr5 hk5
  have C6 := HM.out (op + 1) (t' :: r') v0 HE2.out HR5.out HN2.out
  have HRes3 : Hid (res = (pp n 0 (op + 1) (t' :: r')).then fun a t2 => (wantT ⟨#[41]⟩ t2).then fun _ t3 => .ok (a, t3)) := HRes2.out
  generalize pp n 0 (op + 1) (t' :: r') = q1 at C6 HRes3
  simp only[rp] at C6
  go_wp2_with fail
  refine C6.mono ?_
  rintro x w1 ⟨hk6,hp⟩
  have HKE:=hid (HK5.out.trans hk6)
  have HK6:=hid hk6
  clear C6 hk6
  cases q1 with
  | error er =>
   obtain⟨kk,ee⟩:=er
   obtain⟨rfl,t2,hr2⟩:=hp
   have HRE:Hid _:=hr2
   have HResE:Hid (res=.error (kk,ee)):=HRes3.out
   clear hr2
   go_wp2_with fail
   refine leaves_cons (f:=65) (args:=#[rp R]) (by simp) (by simp[go_sem,rp]) ?_
   refine(leave_d _ HRE.out).mono ?_
   rintro e u' wE ⟨rfl,rfl,hrE,hkE⟩
   show Post W0 R op w res (IsEx w.heap.size) (.panicked [{ v:=badVal kk ee,recovered:=false }]) wE
   rw[HResE.out]
   exact⟨(KeepsB.ofBelow HB0.out).trans (HKE.out.trans hkE),rfl,_,hrE⟩
  | ok pr =>
   obtain⟨ea,t6⟩:=pr
   obtain⟨⟨v,rfl,xa,rfl,rfl,hl,hg⟩,hr6,hE6⟩:=hp
   obtain⟨vL,hwL⟩:=nw (w1.alloc (.cells xa.cells.toArray 27))
   have hbL:Below w1.heap.size w1 vL:=by rw[hwL];exact bal _
   obtain⟨B,hB⟩:=nw (w1.heap.size)
   have HBB:Hid (w.heap.size<B∧B≠R∧B<vL.heap.size):=by
    have h1:=HRd.out
    have h2:=HKE.out.size
    have h3:=HS0.out
    have h4:vL.heap.size=w1.heap.size+1:=by rw[hwL];simp
    exact⟨by omega,by omega,by omega⟩
   have HL6:Hid (Lies (fun k=>w.heap.size<k) vL xa):=(hl.mono fun k h1 (h2:v0.heap.size≤k)=>show w.heap.size<k by have:=HK5.out.size;have:=HS0.out;omega).keep (KeepsQ.ofBelow hbL)
   have HG:Hid xa.good:=hg
   have HKL:=hid (HKE.out.trans (KeepsB.ofBelow hbL))
   have HRL:=hid (hr6.below hbL)
   have HE6:=hid hE6
   have HC6:Hid (∀j,j<6→vL.cell? ⟨B,j,none⟩=xa.cells[j]?):=fun j _=>by rw[hwL];exact(World.cell?_alloc_at _ _ _ _ hB).trans (by simp)
   have HRes4:Hid (res=(wantT ⟨#[41]⟩ t6).then fun _ t3=>.ok (xa.bare,t3)):=HRes3.out
   obtain⟨ka,pa,na,ia,da,aa,ca,la⟩:=xa
   have HWL:Hid (w1.alloc (.cells #[.int .u8 ka,.int .i64 pa,.string na,.int .i64 ia,.int .i64 da,.slice aa la.length ca] 27)=vL):=hwL.symm
   obtain⟨u,r6,rfl⟩:=HE6.out.ne
   have CW:=want_all ⟨#[41]⟩ (by decide) HRL.out HE6.out
   generalize wantT ⟨#[41]⟩ (u::r6)=q at CW HRes4
   clear hl hg hr6 hE6 hwL hbL HRes3 HKE HK6
   simp only[Ex.val,Ex.cells,rp] at CW ⊢
   go_wp2_with fail
   rw[HWL.out]
   simp only[←hB]
   clear hB HWL
   refine CW.mono ?_
   rintro x v2 ⟨hk8,hp⟩
   have HK8:=hid hk8
   have HKE:=hid (HKL.out.trans hk8)
   clear CW hk8
   cases q with
   | error er =>
    obtain⟨kk,ee⟩:=er
    obtain⟨rfl,t9,hr9⟩:=hp
    have HRE:Hid _:=hr9
    have HResE:Hid (res=.error (kk,ee)):=HRes4.out
    clear hr9
    go_wp2_with fail
    refine leaves_cons (f:=65) (args:=#[rp R]) (by simp) (by simp[go_sem,rp]) ?_
    refine(leave_d _ HRE.out).mono ?_
    rintro e u' wE ⟨rfl,rfl,hrE,hkE⟩
    show Post W0 R op w res (IsEx w.heap.size) (.panicked [{ v:=badVal kk ee,recovered:=false }]) wE
    rw[HResE.out]
    exact⟨(KeepsB.ofBelow HB0.out).trans (HKE.out.trans hkE),rfl,_,hrE⟩
   | ok pr =>
    obtain⟨u0,t9⟩:=pr
    obtain⟨⟨v,rfl,rfl⟩,hr9,hE9⟩:=hp
    have HRes5:Hid (res=.ok (Ex.bare ⟨ka,pa,na,ia,da,aa,ca,la⟩,t9)):=HRes4.out
    have HR9:=hid hr9
    have HE9:=hid hE9
    have HO9:=hid (HO0.out.keep HKE.out HneR.out)
    have hown:=HO9.out
    have hltw:=hown.2
    have HL9:Hid (Lies (fun k=>w.heap.size<k) v2 ⟨ka,pa,na,ia,da,aa,ca,la⟩):=HL6.out.keep (KeepsQ.ofB HK8.out fun h=>by have:=HRd.out.2;omega)
    have qb:∀j,j<6→v2.cell? ⟨B,j,none⟩=[.int .u8 ka,.int .i64 pa,.string na,.int .i64 ia,.int .i64 da,.slice aa la.length ca][j]?:=fun j hj=>(HK8.out.cell HBB.out.2.2 HBB.out.2.1).1.trans (HC6.out j hj)
    have d0:v2.cell? ⟨B,0,none⟩=some (.int .u8 ka):=qb 0 (by omega)
    have d1:v2.cell? ⟨B,1,none⟩=some (.int .i64 pa):=qb 1 (by omega)
    have d2:v2.cell? ⟨B,2,none⟩=some (.string na):=qb 2 (by omega)
    have d3:v2.cell? ⟨B,3,none⟩=some (.int .i64 ia):=qb 3 (by omega)
    have d4:v2.cell? ⟨B,4,none⟩=some (.int .i64 da):=qb 4 (by omega)
    have d5:v2.cell? ⟨B,5,none⟩=some (.slice aa la.length ca):=qb 5 (by omega)
    have hltB:B<v2.heap.size:=Nat.lt_of_lt_of_le HBB.out.2.2 HK8.out.size
    have hneB:B≠w.heap.size:=(Nat.ne_of_lt HBB.out.1).symm
    have z0:v2.cell? ⟨w.heap.size,0,none⟩=some (.int .u8 0):=(hown.1 0).1
    have z1:v2.cell? ⟨w.heap.size,1,none⟩=some (.int .i64 0):=(hown.1 1).1
    have z2:v2.cell? ⟨w.heap.size,2,none⟩=some (.string ⟨#[]⟩):=(hown.1 2).1
    have z3:v2.cell? ⟨w.heap.size,3,none⟩=some (.int .i64 0):=(hown.1 3).1
    have z4:v2.cell? ⟨w.heap.size,4,none⟩=some (.int .i64 0):=(hown.1 4).1
    have z5:v2.cell? ⟨w.heap.size,5,none⟩=some (.slice none 0 0):=(hown.1 5).1
    have g0:=(hown.1 0).2
    have g1:=(hown.1 1).2
    have g2:=(hown.1 2).2
    have g3:=(hown.1 3).2
    have g4:=(hown.1 4).2
    have g5:=(hown.1 5).2
    obtain⟨W9,hW9⟩:=nw (exStore v2 w.heap.size ⟨ka,pa,na,ia,da,aa,ca,la⟩)
    have HY:Hid (∀j,j<6→W9.cell? ⟨w.heap.size,j,none⟩=[.int .u8 ka,.int .i64 pa,.string na,.int .i64 ia,.int .i64 da,.slice aa la.length ca][j]?):=by rw[Hid,hW9];exact exStore_cell ⟨ka,pa,na,ia,da,aa,ca,la⟩ fun j=>(hown.1 j).1
    have HR10:Hid (RdAt W0 R t9 (op+1) W9):=by rw[Hid,hW9];exact set6_rd HR9.out HRd.out.1 _ _ _ _ _ _
    have HK10:Hid (KeepsB R w W9):=by rw[Hid,hW9];exact set6_keepsB ((KeepsB.ofBelow HB0.out).trans HKE.out) (Nat.le_refl _) _ _ _ _ _ _
    have HL10:Hid (Lies (fun k=>w.heap.size<k) W9 ⟨ka,pa,na,ia,da,aa,ca,la⟩):=by rw[Hid,hW9];exact HL9.out.keep (set6_keepsQ (fun h=>Nat.lt_irrefl _ h) _ _ _ _ _ _)
    have HS10:Hid (w.heap.size<W9.heap.size):=by rw[Hid,hW9,exStore,set6_size];exact hltw
    have HW9:Hid (((((((v2.setCell ⟨w.heap.size,0,none⟩ (.int .u8 ka)).setCell ⟨w.heap.size,1,none⟩ (.int .i64 pa)).setCell ⟨w.heap.size,2,none⟩ (.string na)).setCell ⟨w.heap.size,3,none⟩ (.int .i64 ia)).setCell ⟨w.heap.size,4,none⟩ (.int .i64 da)).setCell ⟨w.heap.size,5,none⟩ (.slice aa la.length ca))=W9):=hW9.symm
    clear hr9 hE9 hown qb hW9
    go_wp2_with fail
    rw[HW9.out]
    clear z0 z1 z2 z3 z4 z5 g0 g1 g2 g3 g4 g5 d0 d1 d2 d3 d4 d5
    refine leaves_cons (f:=65) (args:=#[rp R]) (by simp) (by simp[go_sem,rp]) ?_
    refine(leave_d _ HR10.out).mono ?_
    rintro e u' w11 ⟨rfl,rfl,hr11,hk11⟩
    have hy:∀j,j<6→w11.cell? ⟨w.heap.size,j,none⟩=[.int .u8 ka,.int .i64 pa,.string na,.int .i64 ia,.int .i64 da,.slice aa la.length ca][j]?:=fun j hj=>(hk11.cell HS10.out HneR.out).1.trans (HY.out j hj)
    have z0:w11.cell? ⟨w.heap.size,0,none⟩=some (.int .u8 ka):=hy 0 (by omega)
    have z1:w11.cell? ⟨w.heap.size,1,none⟩=some (.int .i64 pa):=hy 1 (by omega)
    have z2:w11.cell? ⟨w.heap.size,2,none⟩=some (.string na):=hy 2 (by omega)
    have z3:w11.cell? ⟨w.heap.size,3,none⟩=some (.int .i64 ia):=hy 3 (by omega)
    have z4:w11.cell? ⟨w.heap.size,4,none⟩=some (.int .i64 da):=hy 4 (by omega)
    have z5:w11.cell? ⟨w.heap.size,5,none⟩=some (.slice aa la.length ca):=hy 5 (by omega)
    have HPost:Hid (Post W0 R op w res (IsEx w.heap.size) (.returned (.agg #[.int .u8 ka,.int .i64 pa,.string na,.int .i64 ia,.int .i64 da,.slice aa la.length ca])) w11):=by
     rw[Hid,HRes5.out]
     exact⟨HK10.out.trans hk11,⟨_,rfl,⟨ka,pa,na,ia,da,aa,ca,la⟩,rfl,rfl,(HL10.out.keep (KeepsQ.ofB hk11 (fun h=>by have:=HRd.out.2;omega))).mono fun k _ h=>Nat.le_of_lt h,HG.out⟩,hr11,HE9.out⟩
    clear hy hr11 hk11
    refine⟨_,by simp[results,Tryz.results174,go_sem, *];try rfl,HPost.out⟩
theorem atom_rd{W0:World}{R:Nat}(n:Nat)(hpe:DoesE W0 R 34 (pp n 0))(hlen:∀op ts e t2,pp n 0 op ts=.ok (e,t2)→t2.length≤ts.length):DoesE W0 R 174 (pp (n+1) 10):=by
 intro op ts w hE hrd hns
 obtain⟨t,ts,rfl⟩:=hE.ne
 have hp:=pp_atom n op t ts
 by_cases h2:t.kind=2
 ·exact atom_int n hpe hlen op t ts w h2 hE hrd _ (hp.trans (if_pos h2)) hns
 rw[if_neg h2] at hp
 by_cases h1:t.kind=1
 ·exact atom_name n hpe hlen op t ts w h1 hE hrd _ (hp.trans (if_pos h1)) hns
 rw[if_neg h1] at hp
 by_cases ht:t.text=⟨#[116,114,117,101]⟩
 ·exact atom_true n hpe hlen op t ts w h2 h1 ht hE hrd _ (hp.trans (if_pos ht)) hns
 rw[if_neg ht] at hp
 by_cases hf:t.text=⟨#[102,97,108,115,101]⟩
 ·exact atom_false n hpe hlen op t ts w h2 h1 ht hf hE hrd _ (hp.trans (if_pos hf)) hns
 rw[if_neg hf] at hp
 by_cases ho:t.text=⟨#[40]⟩
 ·exact atom_par n hpe hlen op t ts w h2 h1 ht hf ho hE hrd _ (hp.trans (if_pos ho)) hns
 ·exact atom_bad n hpe hlen op t ts w h2 h1 ht hf ho hE hrd _ (hp.trans (if_neg ho)) hns
end Go.Proofs.YthbgnpkgglbhjaaGreatDoor
