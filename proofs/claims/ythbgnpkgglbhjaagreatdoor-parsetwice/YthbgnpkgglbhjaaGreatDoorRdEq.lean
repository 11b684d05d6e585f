import Derived.Test.YthbgnpkgglbhjaaGreatDoorRdOps5
import Derived.Test.YthbgnpkgglbhjaaGreatDoorRdOps4
namespace Go.Proofs.YthbgnpkgglbhjaaGreatDoor
open Go.RowKit Go.Shelf
open Ex.size Ex.depth Ex.lies Ex.bulk Ex.good Ex.bare
attribute [local go_sem] tk_f0 tk_f1 tk_f2 tk_f3
def RowQ{α β:Type}(K:Elt α β)(Q:Nat→Prop)(w:World)(a:Option Addr)(cap:Nat)(xs:List β):Prop:=xs.length≤cap∧cap≤maxLen∧xs.length≤100001∧(xs≠[]→∃g,a=some ⟨g,0,none⟩∧Q g∧g<w.heap.size∧∀i (h:i<xs.length) j,j<K.z→w.cell? ⟨g,i*K.z+j,none⟩=(K.cells xs[i])[j]?)∧∀x∈xs,K.lies Q w x
theorem RowQ.keep{α β:Type}{K:Elt α β}{Q:Nat→Prop}{w w':World}{a:Option Addr}{cap:Nat}{xs:List β}(h:RowQ K Q w a cap xs)(hk:KeepsQ Q w w'):RowQ K Q w' a cap xs:=by
 obtain⟨h1,h2,h3,h4,h5⟩:=h
 refine⟨h1,h2,h3,fun hne=>?_,fun x hx=>K.keep (h5 x hx) hk⟩
 obtain⟨g,k1,k2,k3,k4⟩:=h4 hne
 exact⟨g,k1,k2,Nat.lt_of_lt_of_le k3 hk.1,fun i hi j hj=>(World.cell?_of_block (hk.2 g k2 k3)).trans (k4 i hi j hj)⟩
theorem RowQ.mono{α β:Type}{K:Elt α β}{Q Q':Nat→Prop}{w:World}{a:Option Addr}{cap:Nat}{xs:List β}(h:RowQ K Q w a cap xs)(hq:∀k,k<w.heap.size→Q k→Q' k):RowQ K Q' w a cap xs:=by
 obtain⟨h1,h2,h3,h4,h5⟩:=h
 refine⟨h1,h2,h3,fun hne=>?_,fun x hx=>K.mono (h5 x hx) hq⟩
 obtain⟨g,k1,k2,k3,k4⟩:=h4 hne
 exact⟨g,k1,hq g k3 k2,k3,k4⟩
theorem IsRow.rowQ{α β:Type}{K:Elt α β}{base:Nat}{w:World}{l:List α}{v:Value}(h:IsRow K base w l v):∃(xs:List β)(a:Option Addr)(cap:Nat),xs.map K.view=l∧v=.slice a xs.length cap∧RowQ K (fun k=>base≤k) w a cap xs:=by
 obtain⟨xs,g,cap,h1,h2,h3,h4,h4',h5,h6,h7,h8⟩:=h
 exact⟨xs,_,cap,h1,h2,h3,h4,h4',fun _=>⟨g,rfl,h5,h6,h7⟩,h8⟩
theorem IsRowN.rowQ{α β:Type}{K:Elt α β}{base:Nat}{w:World}{l:List α}{v:Value}(h:IsRowN K base w l v):∃(xs:List β)(a:Option Addr)(cap:Nat),xs.map K.view=l∧v=.slice a xs.length cap∧RowQ K (fun k=>base≤k) w a cap xs:=by
 rcases h with h|⟨rfl,rfl⟩
 ·exact h.rowQ
 ·exact⟨[],none,0,rfl,rfl,Nat.le_refl _,by unfold maxLen;omega,by simp,fun h=>absurd rfl h,fun x hx=>by cases hx⟩
def Eqn.bare(q:Eqn):Eqn:=⟨none,0,q.ns,q.pq,q.e.bare⟩
def eltQ:Elt Eqn Eqn:=⟨Eqn.cells,8,fun q=>by obtain⟨na,nc,ns,pq,⟨kd,pl,nm,it,dn,a,c,l⟩⟩:=q;rfl,Eqn.bare,fun Q w q=>RowQ eltS Q w q.na q.nc q.ns∧Lies Q w q.e∧q.e.good∧(Lit.int .i64 q.pq).wf=true,fun h k=>⟨h.1.keep k,h.2.1.keep k,h.2.2⟩,fun h k=>⟨h.1.mono k,h.2.1.mono k,h.2.2⟩⟩
def IsQ(base:Nat)(w:World)(q:Eqn)(v:Value):Prop:=∃x:Eqn,eltQ.view x=q∧v=x.val∧eltQ.lies (fun k=>base≤k) w x
set_option maxRecDepth 100000 in
set_option maxHeartbeats 12800000 in
theorem eq_rd{W0:World}{R:Nat}(n op:Nat)(ts:List Tok)(w:World)(hE:Ends ts)(hrd:RdAt W0 R ts op w)(res:PR Eqn)(hres:res=eqT n op ts)(hns:∀k,res≠.error (k,0)) :
  Calls Tryz.prog 99 #[rp R] w (Post W0 R op w res (IsQ w.heap.size)):=by
 obtain⟨w0,hw0⟩:∃w0:World,w0=w.alloc (.cells #[.slice none 0 0,.int .i64 0,.int .u8 0,.int .i64 0,.string ⟨#[]⟩,.int .i64 0,.int .i64 0,.slice none 0 0] 64):=⟨_,rfl⟩
 have hb0:Below w.heap.size w w0:=by rw[hw0];exact bal _
 have HS0:Hid (w0.heap.size=w.heap.size+1):=by rw[Hid,hw0];simp
 have HO0:Hid (Blk w0 w.heap.size [.slice none 0 0,.int .i64 0,.int .u8 0,.int .i64 0,.string ⟨#[]⟩,.int .i64 0,.int .i64 0,.slice none 0 0]):=by rw[Hid,hw0];exact Blk.made w _ _
 have HW0:=hid hw0.symm
 have HB0:=hid hb0
 have HRd:Hid (W0.heap.size≤w.heap.size∧R<w.heap.size):=⟨hrd.keeps.size,hrd.lt⟩
 have HneR:Hid (w.heap.size≠R):=by have:=hrd.lt;rw[Hid];omega
 have HE:=hid hE
 have HR0:=hid (hrd.below hb0)
 have HK0:Hid (KeepsB R w0 w0):=KeepsB.refl _ _
 clear hw0 hb0
 have HNs:=hid hns
 have HM:Hid (DoesE W0 R 34 (pp n 0)):=(pp_all n).1
 have HL:Hid (∀(ts:List Tok)(W:World),Ends ts→RdAt W0 R ts op W→(∀k,listT nameT ⟨#[44]⟩ n ts≠.error (k,0))→Calls Tryz.prog 125 #[.pointer (some ⟨R,0,none⟩),.string ⟨#[44]⟩,.func (.func 92) #[.pointer (some ⟨R,0,none⟩)] #[]] W (Post W0 R op W (listT nameT ⟨#[44]⟩ n ts) (IsRow eltS W.heap.size))):=fun ts W h1 h2 h3=>listS_rd 92 (enters_of Tryz.func92 (by kernel_rfl) rfl) (fun _=>nameT) (fun op ts w h1 h2 _=>name_all h1 h2) (fun _ ts e t2 h=>name_shr ts e t2 h) ⟨#[44]⟩ (by decide) n op ts W h1 h2 _ rfl h3
 obtain⟨t,r,rfl⟩:=hE.ne
 have HFine:Hid t.fine:=hE.fine
 have HRes:Hid (res=if t.text=⟨#[40]⟩ then (listT nameT ⟨#[44]⟩ n r).then fun ns t1=>(wantT ⟨#[41]⟩ t1).then fun _ t2=>eqR n op t.place ns t2 else (nameT (t::r)).then fun s t1=>eqR n op t.place [s] t1):=hres
 have CN:=next_rd HR0.out
 clear hE hrd hres hns
 simp only[rp,tkVal,tkCells] at CN ⊢
 go_enter Tryz.func99,Tryz.ntmps99
 go_wp2_with fail
 rw[HW0.out]
 refine CN.mono ?_
 rintro x w1 ⟨rfl,hb1⟩
 have HR1:=hid (HR0.out.below hb1)
 have HK1:Hid (KeepsB R w0 w1):=KeepsB.ofBelow hb1
 obtain⟨w2,hw3⟩:∃w3:World,w3=w1.alloc (.cells #[.slice none 0 0,.int .i64 t.place,.int .u8 0,.int .i64 0,.string ⟨#[]⟩,.int .i64 0,.int .i64 0,.slice none 0 0] 64):=⟨_,rfl⟩
 obtain⟨B,hB⟩:=nw (w1.heap.size)
 have hb3:Below w1.heap.size w1 w2:=by rw[hw3];exact bal _
 have HRw2:=hid (HR1.out.below hb3)
 have HKw2:=hid (HK1.out.trans (KeepsB.ofBelow hb3))
 have HBB:Hid (w.heap.size<B∧B≠R∧B<w2.heap.size):=by
  have h1:=HRd.out
  have h2:=HK1.out.size
  have h3:=HS0.out
  have h4:w2.heap.size=w1.heap.size+1:=by rw[hw3];simp
  exact⟨by omega,by omega,by omega⟩
 have HDw2:Hid (Blk w2 B [.slice none 0 0,.int .i64 t.place,.int .u8 0,.int .i64 0,.string ⟨#[]⟩,.int .i64 0,.int .i64 0,.slice none 0 0]):=by rw[Hid,hw3,hB];exact Blk.made w1 _ _
 have HWw2:=hid hw3.symm
 clear hb3 hw3
 clear CN hb1
 have CS:=skip_all ⟨#[40]⟩ (by decide) HRw2.out HE.out
 simp only[rp] at CS
 by_cases hbt:t.text=⟨#[40]⟩
 ·rw[if_pos hbt,decide_eq_true hbt] at CS
  have HRes1:Hid (res=(listT nameT ⟨#[44]⟩ n r).then fun ns t1=>(wantT ⟨#[41]⟩ t1).then fun _ t2=>eqR n op t.place ns t2):=by rw[Hid,HRes.out];exact if_pos hbt
  have HN1:Hid (∀k,listT nameT ⟨#[44]⟩ n r≠.error (k,0)):=fun k h=>HNs.out k (by rw[HRes1.out,h];rfl)
  clear hbt HRes
  go_wp2_with fail
  rw[HWw2.out]
  simp only[←hB]
  clear hB
  refine CS.mono ?_
  rintro x w3 ⟨rfl,hk3,hr3,hE3⟩
  have HR3:=hid hr3
  have HE3:=hid hE3
  have HS3:=hid hk3
  have HK3:=hid (HKw2.out.trans hk3)
  have HD3:=hid (HDw2.out.keep hk3 HBB.out.2.1)
  clear CS hk3 hr3 hE3
  have C4:=HL.out r w3 HE3.out HR3.out HN1.out
  clear HN1
  generalize listT nameT ⟨#[44]⟩ n r=q4 at C4 HRes1
  go_wp2_with fail
  refine C4.mono ?_
  rintro x w4 ⟨hk,hp⟩
  have HKE:=hid (HK3.out.trans hk)
  have HSl:=hid hk
  clear C4 hk
  cases q4 with
  | error er =>
   obtain⟨kk,ee⟩:=er
   obtain⟨rfl,t2,hr2⟩:=hp
   have HRE:Hid _:=hr2
   have HResE:Hid (res=.error (kk,ee)):=HRes1.out
   clear hr2
   go_wp2_with fail
   rw[HResE.out]
   exact⟨rfl,(KeepsB.ofBelow HB0.out).trans HKE.out,rfl,t2,HRE.out⟩
  | ok pr =>
   obtain⟨l,t4⟩:=pr
   obtain⟨⟨v,rfl,hv⟩,hr4,hE4⟩:=hp
   obtain⟨ns,ad,cap,hmap,rfl,hrow⟩:=hv.rowQ
   obtain rfl:ns=l:=by rw[←hmap];exact(List.map_id ns).symm
   have HR4:=hid hr4
   have HE4:=hid hE4
   have HK4:=hid (HKE.out)
   have HD4:=hid (HD3.out.keep HSl.out HBB.out.2.1)
   have HN4:Hid (RowQ eltS (fun k=>w.heap.size<k∧k≠B) w4 ad cap ns):=hrow.mono fun k _ (hq:w3.heap.size≤k)=>by
    have h1:=HD3.out.2.2
    have h2:=HBB.out.1
    exact⟨by omega,by omega⟩
   have HRes2:Hid (res=(wantT ⟨#[41]⟩ t4).then fun _ t2=>eqR n op t.place ns t2):=HRes1.out
   clear HKE hr4 hE4 HRes1 hv hrow hmap
   obtain⟨w5,hw3⟩:=nw (w4.setCell ⟨B,0,none⟩ (.slice ad ns.length cap))
   have e0:=HD4.out.get 0 rfl
   have k0:=HD4.out.2.1 0
   have hlB:=HD4.out.2.2
   have HDw5:Hid (Blk w5 B [.slice ad ns.length cap,.int .i64 t.place,.int .u8 0,.int .i64 0,.string ⟨#[]⟩,.int .i64 0,.int .i64 0,.slice none 0 0]):=by rw[Hid,hw3];exact HD4.out.set (i:=0) (by simp) _
   have HRw5:Hid (RdAt W0 R t4 op w5):=by rw[Hid,hw3];exact HR4.out.other (by have:=HRd.out;have:=HBB.out;omega)
   have HKw5:Hid (KeepsB R w0 w5):=by rw[Hid,hw3];exact HK4.out.new (by have:=HS0.out;have:=HBB.out;omega)
   have HWw5:=hid hw3.symm
   clear hw3
   have HN5:Hid (RowQ eltS (fun k=>w.heap.size<k∧k≠B) w5 ad cap ns):=by rw[Hid,←HWw5.out];exact HN4.out.keep (KeepsQ.set fun h=>h.2 rfl)
   obtain⟨u4,r4,rfl⟩:=HE4.out.ne
   have C6:=want_all ⟨#[41]⟩ (by decide) HRw5.out HE4.out
   generalize wantT ⟨#[41]⟩ (u4::r4)=q6 at C6 HRes2
   simp only[rp] at C6
   go_wp2_with fail
   rw[HWw5.out]
   clear e0 k0 hlB
   refine C6.mono ?_
   rintro x w6 ⟨hk,hp⟩
   have HKE:=hid (HKw5.out.trans hk)
   have HSc:=hid hk
   clear C6 hk
   cases q6 with
   | error er =>
    obtain⟨kk,ee⟩:=er
    obtain⟨rfl,t2,hr2⟩:=hp
    have HRE:Hid _:=hr2
    have HResE:Hid (res=.error (kk,ee)):=HRes2.out
    clear hr2
    go_wp2_with fail
    rw[HResE.out]
    exact⟨rfl,(KeepsB.ofBelow HB0.out).trans HKE.out,rfl,t2,HRE.out⟩
   | ok pr =>
    obtain⟨z6,t6⟩:=pr
    obtain⟨⟨v,rfl,rfl⟩,hr6,hE6⟩:=hp
    have HR6:=hid hr6
    have HE6:=hid hE6
    have HK6:=hid (HKE.out)
    have HD6:=hid (HDw5.out.keep HSc.out HBB.out.2.1)
    have HN6:Hid (RowQ eltS (fun k=>w.heap.size<k∧k≠B) w6 ad cap ns):=HN5.out.keep (KeepsQ.ofB HSc.out fun h=>by have:=HRd.out.2;omega)
    have HRes3:Hid (res=eqR n op t.place ns t6):=HRes2.out
    clear HKE hr6 hE6 HRes2
    have HRes5:Hid (res=(wantT ⟨#[61]⟩ t6).then fun _ t1=>(pp n 0 op t1).then fun e t2=>(wantT ⟨#[59]⟩ t2).then fun _ t3=>.ok (⟨none,0,ns,t.place,e⟩,t3)):=HRes3.out
    clear HRes3
    obtain⟨u5,r5,h5⟩:=HE6.out.ne
    have C5:=want_all ⟨#[61]⟩ (by decide) (h5▸HR6.out) (h5▸HE6.out)
    rw[←h5] at C5
    clear h5
    generalize wantT ⟨#[61]⟩ t6=q5 at C5 HRes5
    simp only[rp] at C5
    go_wp2_with fail
    refine C5.mono ?_
    rintro x y1 ⟨hk,hp⟩
    have HKE:=hid (HK6.out.trans hk)
    have HSq:=hid hk
    clear C5 hk
    cases q5 with
    | error er =>
     obtain⟨kk,ee⟩:=er
     obtain⟨rfl,t2,hr2⟩:=hp
     have HRE:Hid _:=hr2
     have HResE:Hid (res=.error (kk,ee)):=HRes5.out
     clear hr2
     go_wp2_with fail
     rw[HResE.out]
     exact⟨rfl,(KeepsB.ofBelow HB0.out).trans HKE.out,rfl,t2,HRE.out⟩
    | ok pr =>
     obtain⟨z5,t5⟩:=pr
     obtain⟨⟨v,rfl,rfl⟩,hr9,hE9⟩:=hp
     have HRy1:=hid hr9
     have HEy1:=hid hE9
     have HKy1:=hid (HKE.out)
     have HDy1:=hid (HD6.out.keep HSq.out HBB.out.2.1)
     have HNy1:Hid (RowQ eltS (fun k=>w.heap.size<k∧k≠B) y1 ad cap ns):=HN6.out.keep (KeepsQ.ofB HSq.out fun h=>by have:=HRd.out.2;omega)
     have HRes6:Hid (res=(pp n 0 op t5).then fun e t2=>(wantT ⟨#[59]⟩ t2).then fun _ t3=>.ok (⟨none,0,ns,t.place,e⟩,t3)):=HRes5.out
     have HN6:Hid (∀k,pp n 0 op t5≠.error (k,0)):=fun k h=>HNs.out k (by rw[HRes6.out,h];rfl)
     clear HKE hr9 hE9 HRes5
     have C6:=HM.out op t5 y1 HEy1.out HRy1.out HN6.out
     clear HN6
     generalize pp n 0 op t5=q6 at C6 HRes6
     simp only[rp] at C6
     go_wp2_with fail
     refine C6.mono ?_
     rintro x y2 ⟨hk,hp⟩
     have HKE:=hid (HKy1.out.trans hk)
     have HSe:=hid hk
     clear C6 hk
     cases q6 with
     | error er =>
      obtain⟨kk,ee⟩:=er
      obtain⟨rfl,t2,hr2⟩:=hp
      have HRE:Hid _:=hr2
      have HResE:Hid (res=.error (kk,ee)):=HRes6.out
      clear hr2
      go_wp2_with fail
      rw[HResE.out]
      exact⟨rfl,(KeepsB.ofBelow HB0.out).trans HKE.out,rfl,t2,HRE.out⟩
     | ok pr =>
      obtain⟨e6,t6⟩:=pr
      obtain⟨⟨v,rfl,xe,rfl,rfl,hl,hg⟩,hr9,hE9⟩:=hp
      have HRy2:=hid hr9
      have HEy2:=hid hE9
      have HKy2:=hid (HKE.out)
      have HDy2:=hid (HDy1.out.keep HSe.out HBB.out.2.1)
      have HNy2:Hid (RowQ eltS (fun k=>w.heap.size<k∧k≠B) y2 ad cap ns):=HNy1.out.keep (KeepsQ.ofB HSe.out fun h=>by have:=HRd.out.2;omega)
      have HLe:Hid (Lies (fun k=>w.heap.size<k∧k≠B) y2 xe):=hl.mono fun k _ (hq:y1.heap.size≤k)=>by
       have h1:=HDy1.out.2.2
       have h2:=HBB.out.1
       exact⟨by omega,by omega⟩
      have HGe:Hid xe.good:=hg
      have HRes7:Hid (res=(wantT ⟨#[59]⟩ t6).then fun _ t3=>.ok (⟨none,0,ns,t.place,xe.bare⟩,t3)):=HRes6.out
      clear HKE hr9 hE9 HRes6 hl hg
      obtain⟨ke,pe,ne,ie,de,ae,ce,le⟩:=xe
      obtain⟨y3,hw3⟩:=nw (setFrom y2 B 2 [.int .u8 ke,.int .i64 pe,.string ne,.int .i64 ie,.int .i64 de,.slice ae le.length ce])
      have HDy3:Hid (Blk y3 B [.slice ad ns.length cap,.int .i64 t.place,.int .u8 ke,.int .i64 pe,.string ne,.int .i64 ie,.int .i64 de,.slice ae le.length ce]):=by rw[Hid,hw3];exact setFrom_blk B [.int .u8 0,.int .i64 0,.string ⟨#[]⟩,.int .i64 0,.int .i64 0,.slice none 0 0] [.slice ad ns.length cap,.int .i64 t.place] y2 HDy2.out _ rfl
      have HRy3:Hid (RdAt W0 R t6 op y3):=by rw[Hid,hw3];exact setFrom_rd HRy2.out (by have:=HRd.out;have:=HBB.out;omega) _ _
      have HKy3:Hid (KeepsB R w0 y3):=by rw[Hid,hw3];exact setFrom_keepsB HKy2.out (by have:=HS0.out;have:=HBB.out;omega) _ _
      have HNy3:Hid (RowQ eltS (fun k=>w.heap.size<k∧k≠B) y3 ad cap ns):=by rw[Hid,hw3];exact HNy2.out.keep (setFrom_keepsQ (fun h=>h.2 rfl) _ _)
      have HLy3:Hid (Lies (fun k=>w.heap.size<k∧k≠B) y3 ⟨ke,pe,ne,ie,de,ae,ce,le⟩):=by rw[Hid,hw3];exact HLe.out.keep (setFrom_keepsQ (fun h=>h.2 rfl) _ _)
      have HWy3:Hid (((((((y2.setCell ⟨B,2,none⟩ (.int .u8 ke)).setCell ⟨B,3,none⟩ (.int .i64 pe)).setCell ⟨B,4,none⟩ (.string ne)).setCell ⟨B,5,none⟩ (.int .i64 ie)).setCell ⟨B,6,none⟩ (.int .i64 de)).setCell ⟨B,7,none⟩ (.slice ae le.length ce))=y3):=by rw[Hid,hw3];rfl
      have b2:=HDy2.out.get 2 rfl
      have b3:=HDy2.out.get 3 rfl
      have b4:=HDy2.out.get 4 rfl
      have b5:=HDy2.out.get 5 rfl
      have b6:=HDy2.out.get 6 rfl
      have b7:=HDy2.out.get 7 rfl
      have f2:=HDy2.out.2.1 2
      have f3:=HDy2.out.2.1 3
      have f4:=HDy2.out.2.1 4
      have f5:=HDy2.out.2.1 5
      have f6:=HDy2.out.2.1 6
      have f7:=HDy2.out.2.1 7
      have hlB:=HDy2.out.2.2
      clear hw3
      obtain⟨u7,r7,rfl⟩:=HEy2.out.ne
      have C7:=want_all ⟨#[59]⟩ (by decide) HRy3.out HEy2.out
      generalize wantT ⟨#[59]⟩ (u7::r7)=q7 at C7 HRes7
      simp only[rp] at C7
      simp only[Ex.val,Ex.cells]
      go_wp2_with fail
      rw[HWy3.out]
      clear b2 b3 b4 b5 b6 b7 f2 f3 f4 f5 f6 f7 hlB
      refine C7.mono ?_
      rintro x y4 ⟨hk,hp⟩
      have HKE:=hid (HKy3.out.trans hk)
      have HSs:=hid hk
      clear C7 hk
      cases q7 with
      | error er =>
       obtain⟨kk,ee⟩:=er
       obtain⟨rfl,t2,hr2⟩:=hp
       have HRE:Hid _:=hr2
       have HResE:Hid (res=.error (kk,ee)):=HRes7.out
       clear hr2
       go_wp2_with fail
       rw[HResE.out]
       exact⟨rfl,(KeepsB.ofBelow HB0.out).trans HKE.out,rfl,t2,HRE.out⟩
      | ok pr =>
       obtain⟨z7,t7⟩:=pr
       obtain⟨⟨v,rfl,rfl⟩,hr9,hE9⟩:=hp
       have HRy4:=hid hr9
       have HEy4:=hid hE9
       have HKy4:=hid (HKE.out)
       have HDy4:=hid (HDy3.out.keep HSs.out HBB.out.2.1)
       have HRes8:Hid (res=.ok (⟨none,0,ns,t.place,Ex.bare ⟨ke,pe,ne,ie,de,ae,ce,le⟩⟩,t7)):=HRes7.out
       have HLy4:Hid (eltQ.lies (fun k=>w.heap.size<k∧k≠B) y4 ⟨ad,cap,ns,t.place,⟨ke,pe,ne,ie,de,ae,ce,le⟩⟩):=⟨HNy3.out.keep (KeepsQ.ofB HSs.out fun h=>by have:=HRd.out.2;omega),HLy3.out.keep (KeepsQ.ofB HSs.out fun h=>by have:=HRd.out.2;omega),HGe.out,HFine.out.2.2⟩
       clear HKE hr9 hE9 HRes7
       have HO9:=hid (HO0.out.keep HKy4.out HneR.out)
       have HD9:=hid (HDy4.out)
       have z0:=HO9.out.get 0 rfl
       have z1:=HO9.out.get 1 rfl
       have z2:=HO9.out.get 2 rfl
       have z3:=HO9.out.get 3 rfl
       have z4:=HO9.out.get 4 rfl
       have z5:=HO9.out.get 5 rfl
       have z6:=HO9.out.get 6 rfl
       have z7:=HO9.out.get 7 rfl
       have g0:=HO9.out.2.1 0
       have g1:=HO9.out.2.1 1
       have g2:=HO9.out.2.1 2
       have g3:=HO9.out.2.1 3
       have g4:=HO9.out.2.1 4
       have g5:=HO9.out.2.1 5
       have g6:=HO9.out.2.1 6
       have g7:=HO9.out.2.1 7
       have d0:=HD9.out.get 0 rfl
       have d1:=HD9.out.get 1 rfl
       have d2:=HD9.out.get 2 rfl
       have d3:=HD9.out.get 3 rfl
       have d4:=HD9.out.get 4 rfl
       have d5:=HD9.out.get 5 rfl
       have d6:=HD9.out.get 6 rfl
       have d7:=HD9.out.get 7 rfl
       have hltw:=HO9.out.2.2
       have hltB:=HD9.out.2.2
       have hneB:=(Nat.ne_of_lt HBB.out.1).symm
       obtain⟨W9,hW9⟩:=nw (setFrom y4 w.heap.size 0 [.slice ad ns.length cap,.int .i64 t.place,.int .u8 ke,.int .i64 pe,.string ne,.int .i64 ie,.int .i64 de,.slice ae le.length ce])
       have HY:Hid (Blk W9 w.heap.size [.slice ad ns.length cap,.int .i64 t.place,.int .u8 ke,.int .i64 pe,.string ne,.int .i64 ie,.int .i64 de,.slice ae le.length ce]):=by rw[Hid,hW9];exact HO9.out.all _ rfl
       have HR10:Hid (RdAt W0 R t7 op W9):=by rw[Hid,hW9];exact setFrom_rd HRy4.out HRd.out.1 _ _
       have HK10:Hid (KeepsB R w W9):=by rw[Hid,hW9];exact setFrom_keepsB ((KeepsB.ofBelow HB0.out).trans HKy4.out) (Nat.le_refl _) _ _
       have HW9:Hid (((((((((y4.setCell ⟨w.heap.size,0,none⟩ (.slice ad ns.length cap)).setCell ⟨w.heap.size,1,none⟩ (.int .i64 t.place)).setCell ⟨w.heap.size,2,none⟩ (.int .u8 ke)).setCell ⟨w.heap.size,3,none⟩ (.int .i64 pe)).setCell ⟨w.heap.size,4,none⟩ (.string ne)).setCell ⟨w.heap.size,5,none⟩ (.int .i64 ie)).setCell ⟨w.heap.size,6,none⟩ (.int .i64 de)).setCell ⟨w.heap.size,7,none⟩ (.slice ae le.length ce))=W9):=by rw[Hid,hW9];rfl
       have HP:Hid (IsQ w.heap.size W9 ⟨none,0,ns,t.place,Ex.bare ⟨ke,pe,ne,ie,de,ae,ce,le⟩⟩ (Eqn.val ⟨ad,cap,ns,t.place,⟨ke,pe,ne,ie,de,ae,ce,le⟩⟩)):=by rw[Hid,hW9];exact⟨_,rfl,rfl,eltQ.mono (eltQ.keep HLy4.out (setFrom_keepsQ (fun h=>Nat.lt_irrefl _ h.1) _ _)) fun k _ h=>Nat.le_of_lt h.1⟩
       clear hW9
       go_wp2_with fail
       rw[HW9.out]
       clear z0 g0 d0 z1 g1 d1 z2 g2 d2 z3 g3 d3 z4 g4 d4 z5 g5 d5 z6 g6 d6 z7 g7 d7
       have z0:=HY.out.get 0 rfl
       have z1:=HY.out.get 1 rfl
       have z2:=HY.out.get 2 rfl
       have z3:=HY.out.get 3 rfl
       have z4:=HY.out.get 4 rfl
       have z5:=HY.out.get 5 rfl
       have z6:=HY.out.get 6 rfl
       have z7:=HY.out.get 7 rfl
       refine bodyPost_ret (by simp[results,Tryz.results99,go_sem, *];try rfl) rfl ?_
       rw[HRes8.out]
       exact⟨HK10.out,⟨_,rfl,HP.out⟩,HR10.out,HEy4.out⟩
 ·rw[if_neg hbt,decide_eq_false hbt] at CS
  have HRes1:Hid (res=(nameT (t::r)).then fun s t1=>eqR n op t.place [s] t1):=by rw[Hid,HRes.out];exact if_neg hbt
  clear hbt HRes
  go_wp2_with fail
  rw[HWw2.out]
  simp only[←hB]
  clear hB
  refine CS.mono ?_
  rintro x w3 ⟨rfl,hk3,hr3,hE3⟩
  have HR3:=hid hr3
  have HE3:=hid hE3
  have HK3:=hid (HKw2.out.trans hk3)
  have HD3:=hid (HDw2.out.keep hk3 HBB.out.2.1)
  clear CS hk3 hr3 hE3
  have C4:=name_all HE3.out HR3.out
  generalize nameT (t::r)=q4 at C4 HRes1
  simp only[rp] at C4
  go_wp2_with fail
  refine C4.mono ?_
  rintro x w4 ⟨hk,hp⟩
  have HKE:=hid (HK3.out.trans hk)
  have HSl:=hid hk
  clear C4 hk
  cases q4 with
  | error er =>
   obtain⟨kk,ee⟩:=er
   obtain⟨rfl,t2,hr2⟩:=hp
   have HRE:Hid _:=hr2
   have HResE:Hid (res=.error (kk,ee)):=HRes1.out
   clear hr2
   go_wp2_with fail
   rw[HResE.out]
   exact⟨rfl,(KeepsB.ofBelow HB0.out).trans HKE.out,rfl,t2,HRE.out⟩
  | ok pr =>
   obtain⟨s,t4⟩:=pr
   obtain⟨⟨v,rfl,rfl,hsz⟩,hr4,hE4⟩:=hp
   obtain⟨w5,hw5⟩:=nw (w4.setCell ⟨B,0,none⟩ (.slice (some ⟨w4.heap.size,0,none⟩) 1 1))
   obtain⟨w6,hw6⟩:=nw (w5.alloc (.cells #[.string s] 9))
   have hs5:w5.heap.size=w4.heap.size:=by rw[hw5];simp
   have hb6:Below w5.heap.size w5 w6:=by rw[hw6];exact bal _
   have HD4:=hid (HD3.out.keep HSl.out HBB.out.2.1)
   have HD5:Hid (Blk w5 B [.slice (some ⟨w4.heap.size,0,none⟩) 1 1,.int .i64 t.place,.int .u8 0,.int .i64 0,.string ⟨#[]⟩,.int .i64 0,.int .i64 0,.slice none 0 0]):=by rw[Hid,hw5];exact HD4.out.set (i:=0) (by simp) _
   have HD6:=hid (HD5.out.keep (KeepsB.ofBelow (b:=R) hb6) HBB.out.2.1)
   have hr5:RdAt W0 R t4 op w5:=by rw[hw5];exact hr4.other (by have:=HRd.out;have:=HBB.out;omega)
   have HR6:=hid (hr5.below hb6)
   have HE6:=hid hE4
   have hk5:KeepsB R w0 w5:=by rw[hw5];exact HKE.out.new (by have:=HS0.out;have:=HBB.out;omega)
   have HK6:=hid (hk5.trans (KeepsB.ofBelow hb6))
   have hB4:=HD4.out.2.2
   have HN6:Hid (RowQ eltS (fun k=>w.heap.size<k∧k≠B) w6 (some ⟨w4.heap.size,0,none⟩) 1 [s]):=by
    refine⟨Nat.le_refl _,by unfold maxLen;omega,by simp,fun _=>⟨w4.heap.size,rfl,by have:=HBB.out.1;exact⟨by omega,by omega⟩,by rw[hw6];simp[hs5],fun i h j hj=>?_⟩,fun x hx=>by rw[List.mem_singleton] at hx;subst hx;exact hsz⟩
    have hi:i=0:=by simp only[lC,lN] at h;omega
    have hj':j<1:=hj
    have hj0:j=0:=by omega
    subst hi hj0
    rw[hw6]
    exact(World.cell?_alloc_at _ _ _ _ hs5.symm).trans rfl
   have HW6:Hid ((w4.setCell ⟨B,0,none⟩ (.slice (some ⟨w4.heap.size,0,none⟩) 1 1)).alloc (.cells #[.string s] 9)=w6):=by rw[Hid,hw6,hw5]
   have e0:=HD4.out.get 0 rfl
   have k0:=HD4.out.2.1 0
   have hlB:=HD4.out.2.2
   have HRes3:Hid (res=eqR n op t.place [s] t4):=HRes1.out
   clear HKE hr4 hE4 HRes1 hsz hs5 hb6 hr5 hk5 hB4 hw5 hw6
   have HRes5:Hid (res=(wantT ⟨#[61]⟩ t4).then fun _ t1=>(pp n 0 op t1).then fun e t2=>(wantT ⟨#[59]⟩ t2).then fun _ t3=>.ok (⟨none,0,[s],t.place,e⟩,t3)):=HRes3.out
   clear HRes3
   obtain⟨u5,r5,h5⟩:=HE6.out.ne
   have C5:=want_all ⟨#[61]⟩ (by decide) (h5▸HR6.out) (h5▸HE6.out)
   rw[←h5] at C5
   clear h5
   generalize wantT ⟨#[61]⟩ t4=q5 at C5 HRes5
   simp only[rp] at C5
   go_wp2_with fail
   rw[HW6.out]
   clear e0 k0 hlB
   refine C5.mono ?_
   rintro x y1 ⟨hk,hp⟩
   have HKE:=hid (HK6.out.trans hk)
   have HSq:=hid hk
   clear C5 hk
   cases q5 with
   | error er =>
    obtain⟨kk,ee⟩:=er
    obtain⟨rfl,t2,hr2⟩:=hp
    have HRE:Hid _:=hr2
    have HResE:Hid (res=.error (kk,ee)):=HRes5.out
    clear hr2
    go_wp2_with fail
    rw[HResE.out]
    exact⟨rfl,(KeepsB.ofBelow HB0.out).trans HKE.out,rfl,t2,HRE.out⟩
   | ok pr =>
    obtain⟨z5,t5⟩:=pr
    obtain⟨⟨v,rfl,rfl⟩,hr9,hE9⟩:=hp
    have HRy1:=hid hr9
    have HEy1:=hid hE9
    have HKy1:=hid (HKE.out)
    have HDy1:=hid (HD6.out.keep HSq.out HBB.out.2.1)
    have HNy1:Hid (RowQ eltS (fun k=>w.heap.size<k∧k≠B) y1 (some ⟨w4.heap.size,0,none⟩) 1 [s]):=HN6.out.keep (KeepsQ.ofB HSq.out fun h=>by have:=HRd.out.2;omega)
    have HRes6:Hid (res=(pp n 0 op t5).then fun e t2=>(wantT ⟨#[59]⟩ t2).then fun _ t3=>.ok (⟨none,0,[s],t.place,e⟩,t3)):=HRes5.out
    have HN6:Hid (∀k,pp n 0 op t5≠.error (k,0)):=fun k h=>HNs.out k (by rw[HRes6.out,h];rfl)
    clear HKE hr9 hE9 HRes5
    have C6:=HM.out op t5 y1 HEy1.out HRy1.out HN6.out
    clear HN6
    generalize pp n 0 op t5=q6 at C6 HRes6
    simp only[rp] at C6
    go_wp2_with fail
    refine C6.mono ?_
    rintro x y2 ⟨hk,hp⟩
    have HKE:=hid (HKy1.out.trans hk)
    have HSe:=hid hk
    clear C6 hk
    cases q6 with
    | error er =>
     obtain⟨kk,ee⟩:=er
     obtain⟨rfl,t2,hr2⟩:=hp
     have HRE:Hid _:=hr2
     have HResE:Hid (res=.error (kk,ee)):=HRes6.out
     clear hr2
     go_wp2_with fail
     rw[HResE.out]
     exact⟨rfl,(KeepsB.ofBelow HB0.out).trans HKE.out,rfl,t2,HRE.out⟩
    | ok pr =>
     obtain⟨e6,t6⟩:=pr
     obtain⟨⟨v,rfl,xe,rfl,rfl,hl,hg⟩,hr9,hE9⟩:=hp
     have HRy2:=hid hr9
     have HEy2:=hid hE9
     have HKy2:=hid (HKE.out)
     have HDy2:=hid (HDy1.out.keep HSe.out HBB.out.2.1)
     have HNy2:Hid (RowQ eltS (fun k=>w.heap.size<k∧k≠B) y2 (some ⟨w4.heap.size,0,none⟩) 1 [s]):=HNy1.out.keep (KeepsQ.ofB HSe.out fun h=>by have:=HRd.out.2;omega)
     have HLe:Hid (Lies (fun k=>w.heap.size<k∧k≠B) y2 xe):=hl.mono fun k _ (hq:y1.heap.size≤k)=>by
      have h1:=HDy1.out.2.2
      have h2:=HBB.out.1
      exact⟨by omega,by omega⟩
     have HGe:Hid xe.good:=hg
     have HRes7:Hid (res=(wantT ⟨#[59]⟩ t6).then fun _ t3=>.ok (⟨none,0,[s],t.place,xe.bare⟩,t3)):=HRes6.out
     clear HKE hr9 hE9 HRes6 hl hg
     obtain⟨ke,pe,ne,ie,de,ae,ce,le⟩:=xe
     obtain⟨y3,hw3⟩:=nw (setFrom y2 B 2 [.int .u8 ke,.int .i64 pe,.string ne,.int .i64 ie,.int .i64 de,.slice ae le.length ce])
     have HDy3:Hid (Blk y3 B [.slice (some ⟨w4.heap.size,0,none⟩) 1 1,.int .i64 t.place,.int .u8 ke,.int .i64 pe,.string ne,.int .i64 ie,.int .i64 de,.slice ae le.length ce]):=by rw[Hid,hw3];exact setFrom_blk B [.int .u8 0,.int .i64 0,.string ⟨#[]⟩,.int .i64 0,.int .i64 0,.slice none 0 0] [.slice (some ⟨w4.heap.size,0,none⟩) 1 1,.int .i64 t.place] y2 HDy2.out _ rfl
     have HRy3:Hid (RdAt W0 R t6 op y3):=by rw[Hid,hw3];exact setFrom_rd HRy2.out (by have:=HRd.out;have:=HBB.out;omega) _ _
     have HKy3:Hid (KeepsB R w0 y3):=by rw[Hid,hw3];exact setFrom_keepsB HKy2.out (by have:=HS0.out;have:=HBB.out;omega) _ _
     have HNy3:Hid (RowQ eltS (fun k=>w.heap.size<k∧k≠B) y3 (some ⟨w4.heap.size,0,none⟩) 1 [s]):=by rw[Hid,hw3];exact HNy2.out.keep (setFrom_keepsQ (fun h=>h.2 rfl) _ _)
     have HLy3:Hid (Lies (fun k=>w.heap.size<k∧k≠B) y3 ⟨ke,pe,ne,ie,de,ae,ce,le⟩):=by rw[Hid,hw3];exact HLe.out.keep (setFrom_keepsQ (fun h=>h.2 rfl) _ _)
     have HWy3:Hid (((((((y2.setCell ⟨B,2,none⟩ (.int .u8 ke)).setCell ⟨B,3,none⟩ (.int .i64 pe)).setCell ⟨B,4,none⟩ (.string ne)).setCell ⟨B,5,none⟩ (.int .i64 ie)).setCell ⟨B,6,none⟩ (.int .i64 de)).setCell ⟨B,7,none⟩ (.slice ae le.length ce))=y3):=by rw[Hid,hw3];rfl
     have b2:=HDy2.out.get 2 rfl
     have b3:=HDy2.out.get 3 rfl
     have b4:=HDy2.out.get 4 rfl
     have b5:=HDy2.out.get 5 rfl
     have b6:=HDy2.out.get 6 rfl
     have b7:=HDy2.out.get 7 rfl
     have f2:=HDy2.out.2.1 2
     have f3:=HDy2.out.2.1 3
     have f4:=HDy2.out.2.1 4
     have f5:=HDy2.out.2.1 5
     have f6:=HDy2.out.2.1 6
     have f7:=HDy2.out.2.1 7
     have hlB:=HDy2.out.2.2
     clear hw3
     obtain⟨u7,r7,rfl⟩:=HEy2.out.ne
     have C7:=want_all ⟨#[59]⟩ (by decide) HRy3.out HEy2.out
     generalize wantT ⟨#[59]⟩ (u7::r7)=q7 at C7 HRes7
     simp only[rp] at C7
     simp only[Ex.val,Ex.cells]
     go_wp2_with fail
     rw[HWy3.out]
     clear b2 b3 b4 b5 b6 b7 f2 f3 f4 f5 f6 f7 hlB
     refine C7.mono ?_
     rintro x y4 ⟨hk,hp⟩
     have HKE:=hid (HKy3.out.trans hk)
     have HSs:=hid hk
     clear C7 hk
     cases q7 with
     | error er =>
      obtain⟨kk,ee⟩:=er
      obtain⟨rfl,t2,hr2⟩:=hp
      have HRE:Hid _:=hr2
      have HResE:Hid (res=.error (kk,ee)):=HRes7.out
      clear hr2
      go_wp2_with fail
      rw[HResE.out]
      exact⟨rfl,(KeepsB.ofBelow HB0.out).trans HKE.out,rfl,t2,HRE.out⟩
     | ok pr =>
      obtain⟨z7,t7⟩:=pr
      obtain⟨⟨v,rfl,rfl⟩,hr9,hE9⟩:=hp
      have HRy4:=hid hr9
      have HEy4:=hid hE9
      have HKy4:=hid (HKE.out)
      have HDy4:=hid (HDy3.out.keep HSs.out HBB.out.2.1)
      have HRes8:Hid (res=.ok (⟨none,0,[s],t.place,Ex.bare ⟨ke,pe,ne,ie,de,ae,ce,le⟩⟩,t7)):=HRes7.out
      have HLy4:Hid (eltQ.lies (fun k=>w.heap.size<k∧k≠B) y4 ⟨(some ⟨w4.heap.size,0,none⟩),1,[s],t.place,⟨ke,pe,ne,ie,de,ae,ce,le⟩⟩):=⟨HNy3.out.keep (KeepsQ.ofB HSs.out fun h=>by have:=HRd.out.2;omega),HLy3.out.keep (KeepsQ.ofB HSs.out fun h=>by have:=HRd.out.2;omega),HGe.out,HFine.out.2.2⟩
      clear HKE hr9 hE9 HRes7
      have HO9:=hid (HO0.out.keep HKy4.out HneR.out)
      have HD9:=hid (HDy4.out)
      have z0:=HO9.out.get 0 rfl
      have z1:=HO9.out.get 1 rfl
      have z2:=HO9.out.get 2 rfl
      have z3:=HO9.out.get 3 rfl
      have z4:=HO9.out.get 4 rfl
      have z5:=HO9.out.get 5 rfl
      have z6:=HO9.out.get 6 rfl
      have z7:=HO9.out.get 7 rfl
      have g0:=HO9.out.2.1 0
      have g1:=HO9.out.2.1 1
      have g2:=HO9.out.2.1 2
      have g3:=HO9.out.2.1 3
      have g4:=HO9.out.2.1 4
      have g5:=HO9.out.2.1 5
      have g6:=HO9.out.2.1 6
      have g7:=HO9.out.2.1 7
      have d0:=HD9.out.get 0 rfl
      have d1:=HD9.out.get 1 rfl
      have d2:=HD9.out.get 2 rfl
      have d3:=HD9.out.get 3 rfl
      have d4:=HD9.out.get 4 rfl
      have d5:=HD9.out.get 5 rfl
      have d6:=HD9.out.get 6 rfl
      have d7:=HD9.out.get 7 rfl
      have hltw:=HO9.out.2.2
      have hltB:=HD9.out.2.2
      have hneB:=(Nat.ne_of_lt HBB.out.1).symm
      obtain⟨W9,hW9⟩:=nw (setFrom y4 w.heap.size 0 [.slice (some ⟨w4.heap.size,0,none⟩) 1 1,.int .i64 t.place,.int .u8 ke,.int .i64 pe,.string ne,.int .i64 ie,.int .i64 de,.slice ae le.length ce])
      have HY:Hid (Blk W9 w.heap.size [.slice (some ⟨w4.heap.size,0,none⟩) 1 1,.int .i64 t.place,.int .u8 ke,.int .i64 pe,.string ne,.int .i64 ie,.int .i64 de,.slice ae le.length ce]):=by rw[Hid,hW9];exact HO9.out.all _ rfl
      have HR10:Hid (RdAt W0 R t7 op W9):=by rw[Hid,hW9];exact setFrom_rd HRy4.out HRd.out.1 _ _
      have HK10:Hid (KeepsB R w W9):=by rw[Hid,hW9];exact setFrom_keepsB ((KeepsB.ofBelow HB0.out).trans HKy4.out) (Nat.le_refl _) _ _
      have HW9:Hid (((((((((y4.setCell ⟨w.heap.size,0,none⟩ (.slice (some ⟨w4.heap.size,0,none⟩) 1 1)).setCell ⟨w.heap.size,1,none⟩ (.int .i64 t.place)).setCell ⟨w.heap.size,2,none⟩ (.int .u8 ke)).setCell ⟨w.heap.size,3,none⟩ (.int .i64 pe)).setCell ⟨w.heap.size,4,none⟩ (.string ne)).setCell ⟨w.heap.size,5,none⟩ (.int .i64 ie)).setCell ⟨w.heap.size,6,none⟩ (.int .i64 de)).setCell ⟨w.heap.size,7,none⟩ (.slice ae le.length ce))=W9):=by rw[Hid,hW9];rfl
      have HP:Hid (IsQ w.heap.size W9 ⟨none,0,[s],t.place,Ex.bare ⟨ke,pe,ne,ie,de,ae,ce,le⟩⟩ (Eqn.val ⟨(some ⟨w4.heap.size,0,none⟩),1,[s],t.place,⟨ke,pe,ne,ie,de,ae,ce,le⟩⟩)):=by rw[Hid,hW9];exact⟨_,rfl,rfl,eltQ.mono (eltQ.keep HLy4.out (setFrom_keepsQ (fun h=>Nat.lt_irrefl _ h.1) _ _)) fun k _ h=>Nat.le_of_lt h.1⟩
      clear hW9
      go_wp2_with fail
      rw[HW9.out]
      clear z0 g0 d0 z1 g1 d1 z2 g2 d2 z3 g3 d3 z4 g4 d4 z5 g5 d5 z6 g6 d6 z7 g7 d7
      have z0:=HY.out.get 0 rfl
      have z1:=HY.out.get 1 rfl
      have z2:=HY.out.get 2 rfl
      have z3:=HY.out.get 3 rfl
      have z4:=HY.out.get 4 rfl
      have z5:=HY.out.get 5 rfl
      have z6:=HY.out.get 6 rfl
      have z7:=HY.out.get 7 rfl
      refine bodyPost_ret (by simp[results,Tryz.results99,go_sem, *];try rfl) rfl ?_
      rw[HRes8.out]
      exact⟨HK10.out,⟨_,rfl,HP.out⟩,HR10.out,HEy4.out⟩
end Go.Proofs.YthbgnpkgglbhjaaGreatDoor
