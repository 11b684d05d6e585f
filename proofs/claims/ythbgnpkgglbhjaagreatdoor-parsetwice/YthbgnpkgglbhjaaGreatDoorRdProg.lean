import Derived.Test.YthbgnpkgglbhjaaGreatDoorRdNode
namespace Go.Proofs.YthbgnpkgglbhjaaGreatDoor
open Go.RowKit Go.Shelf
open Ex.size Ex.depth Ex.lies Ex.bulk Ex.good Ex.bare
attribute [local go_sem] tk_f0 tk_f1 tk_f2 tk_f3
theorem Tryz.infoNodeL:(Tryz.prog.info? 60).map (fun i=>(i.zero,i.size,i.bytes))=some (some (.agg #[.bool false,.string ⟨#[]⟩,.int .i64 0,.slice none 0 0,.slice none 0 0,.slice none 0 0,.slice none 0 0]),7,128):=by kernel_rfl
theorem nd_one'(q:Nd):∀u∈eltN.cells q,u.oneCell'=true:=by
 intro u hu
 have hu:u∈q.cells:=hu
 simp only[Nd.cells,List.mem_cons,List.not_mem_nil,or_false] at hu
 rcases hu with rfl|rfl|rfl|rfl|rfl|rfl|rfl<;>rfl
def IsPr(base:Nat)(w:World)(l:List Nd)(v:Value):Prop:=∃(xs:List Nd)(a:Option Addr)(cap:Nat),xs.map Nd.bare=l∧v=.agg #[.slice a xs.length cap]∧RowQ eltN (fun k=>base≤k) w a cap xs
set_option maxRecDepth 100000 in
set_option maxHeartbeats 12800000 in
theorem program_rd{W0:World}{R:Nat}(n op:Nat)(ts:List Tok)(w:World)(hE:Ends ts)(hrd:RdAt W0 R ts op w)(resq:PR (List Nd))(hres:resq=nodesL n op n [] ts)(hns:∀k,resq≠.error (k,0)) :
  Calls Tryz.prog 28 #[rp R] w (Post W0 R op w resq (IsPr w.heap.size)):=by
 obtain⟨w0,hw0⟩:=nw (w.alloc (.cells #[.slice none 0 0] 24))
 have hb0:Below w.heap.size w w0:=by rw[hw0];exact bal _
 have HS0:Hid (w0.heap.size=w.heap.size+1):=by rw[Hid,hw0];simp
 have HO0:Hid (Blk w0 w.heap.size [.slice none 0 0]):=by rw[Hid,hw0];exact Blk.made w _ _
 have HW0:=hid hw0.symm
 have HB0:=hid hb0
 have HRd:Hid (W0.heap.size≤w.heap.size∧R<w.heap.size):=⟨hrd.keeps.size,hrd.lt⟩
 have HneR:Hid (w.heap.size≠R):=by have:=hrd.lt;rw[Hid];omega
 have HE:=hid hE
 have HR0:=hid (hrd.below hb0)
 have HK0:Hid (KeepsB R w0 w0):=KeepsB.refl _ _
 clear hw0 hb0
 obtain⟨i0,hi,hz0',hz1,hz2⟩:=info_parts Tryz.infoNodeL
 have HI:Hid _:=hi
 have HZ0:Hid _:=hz0'
 have HZ1:Hid _:=hz1
 have HZ2:Hid _:=hz2
 have HNq:=hid hns
 have HRq:=hid hres.symm
 obtain⟨x8,hx8⟩:=nw (w0.alloc (.cells #[.slice none 0 0] 24))
 obtain⟨N,hN⟩:=nw (w0.heap.size)
 obtain⟨D,hD⟩:=nw (x8.heap.size)
 have hb8:Below w0.heap.size w0 x8:=by rw[hx8];exact bal _
 have HD8:Hid (Blk x8 N [.slice none 0 0]):=by rw[Hid,hx8,hN];exact Blk.made w0 _ _
 have HDd:Hid (w.heap.size<N∧N<D∧R<D∧w0.heap.size≤N∧N≠R):=by
  have h1:=HS0.out
  have h2:=HD8.out.2.2
  have h3:=HRd.out
  exact⟨by omega,by omega,by omega,by omega,by omega⟩
 have HX0:Hid (InL eltN R D 60 w ([]:List Nd) (.slice none 0 0) x8∧Blk x8 N [.slice none 0 0]∧RdAt W0 R ts op x8∧Ends ts∧nodesL n op n (([]:List Nd).map eltN.view) ts=resq∧([]:List Nd).length+List.length ts≤100001∧D≤x8.heap.size∧KeepsB R w0 x8):=by
  refine⟨InL.none ((KeepsB.ofBelow HB0.out).trans (KeepsB.ofBelow hb8)),HD8.out,HR0.out.below hb8,hE,HRq.out,by have:=hE.few;simp only[List.length_nil];omega,Nat.le_of_eq hD,KeepsB.ofBelow hb8⟩
 have HW8:=hid hx8.symm
 have HWw:Hid ((w.alloc (.cells #[.slice none 0 0] 24)).alloc (.cells #[.slice none 0 0] 24)=x8):=by rw[Hid,HW0.out,HW8.out]
 have HNe:Hid (w.heap.size+1=N):=by rw[Hid,hN];exact HS0.out.symm
 have HNd:Hid (∀(t t':Tok) r W,Ends (t::t'::r)→Ends (t'::r)→RdAt W0 R (t::t'::r) op W→(∀k,nodeT n op (t::t'::r)≠.error (k,0))→Calls Tryz.prog 58 #[.pointer (some ⟨R,0,none⟩)] W (Post W0 R op W (nodeT n op (t::t'::r)) (IsNd W.heap.size))):=fun t t' r W h1 h2 h3 h4=>node_rd n op t t' r W h1 h2 h3 _ rfl h4
 clear hi hz0' hz1 hz2 hE hrd hres hns hx8 hN hD hb8 HRq
 simp only[rp]
 go_enter Tryz.func28,Tryz.ntmps28
 go_wp2_with fail
 rw[HWw.out]
 simp only[HNe.out]
 go_loopw [] (fun wr=>∃(xs:List Nd)(v:Value)(ts':List Tok)(k:Nat),Hid (InL eltN R D 60 w xs (v) wr∧Blk wr N [v]∧RdAt W0 R ts' op wr∧Ends ts'∧nodesL n op k (xs.map eltN.view) ts'=resq∧xs.length+List.length ts'≤100001∧D≤wr.heap.size∧KeepsB R w0 wr)) (fun wr=>restOf R wr)
 case atStart=>exact⟨[],.slice none 0 0,ts,n,HX0⟩
 case round =>
  obtain⟨xs,v,ts',k,HX⟩:=hrel
  obtain⟨hI,hB,hr,hE,hch,hfew,hDw,hK⟩:=HX.out
  obtain⟨u,r0,rfl⟩:=hE.ne
  rcases k with _|k
  ·exact absurd hch.symm (HNq.out 0)
  obtain⟨qa,qc,rfl⟩:=hI.form
  have HI2:=hid hI
  have HBw:=hid hB
  have HRw:=hid hr
  have HEw:=hid hE
  have HFw:Hid (xs.length+(r0.length+1)≤100001):=by rw[Hid];simpa using hfew
  have HDw:=hid hDw
  have HKw:=hid hK
  have HMeas:Hid (restOf R wr=r0.length+1):=hr.rest
  have HCh0:Hid ((if isNode u then (nodeT n op (u::r0)).then (fun q t1=>nodesL n op k (xs.map eltN.view++[q]) t1) else .ok (xs.map eltN.view,u::r0))=resq):=hch
  have CI:=is_rd ⟨#[110,111,100,101]⟩ hr
  clear hI hB hr hE hch hfew hDw hK HX HX0
  simp only[rp] at CI
  by_cases hn1:u.text=⟨#[110,111,100,101]⟩
  ·have HCh:Hid ((nodeT n op (u::r0)).then (fun q t1=>nodesL n op k (xs.map eltN.view++[q]) t1)=resq):=by rw[Hid,←HCh0.out];exact(if_pos (Or.inl hn1)).symm
   rw[decide_eq_true hn1] at CI
   obtain⟨hE2,u',r',rfl⟩:=HEw.out.more (Or.inr (by rw[hn1];decide))
   have HE2:=hid hE2
   have HNo:Hid (isNode u):=Or.inl hn1
   clear hn1 hE2 HCh0
   go_wp2_with fail
   refine CI.mono ?_
   rintro r2 w2 ⟨rfl,hb2⟩
   have HR2:=hid (HRw.out.below hb2)
   have HK2w:Hid (KeepsB R wr w2):=KeepsB.ofBelow hb2
   clear CI hb2
   have HD2:=hid (HBw.out.keep HK2w.out HDd.out.2.2.2.2)
   have HN2:Hid (∀k,nodeT n op (u::u'::r')≠.error (k,0)):=fun k h=>HNq.out k (by rw[←HCh.out,h];rfl)
   have HP:Hid (∀W,RdAt W0 R (u::u'::r') op W→Calls Tryz.prog 58 #[.pointer (some ⟨R,0,none⟩)] W (Post W0 R op W (nodeT n op (u::u'::r')) (IsNd W.heap.size))):=fun W h=>HNd.out u u' r' W HEw.out HE2.out h HN2.out
   have n6:=HD2.out.get 0 rfl
   have n6f:=HD2.out.2.1 0
   have hlN:=HD2.out.2.2
   clear HN2
   cases hpp:nodeT n op (u::u'::r') with
   | error er =>
    obtain⟨kk,ee⟩:=er
    rw[hpp] at HP HCh
    have HResE:Hid (resq=.error (kk,ee)):=HCh.out.symm
    clear hpp HCh
    go_wp2_with fail
    refine wp_region_any (by kernel_rfl) ?_
    change wpAny _ _ _ _ _ _ _ (World.drew _)
    refine takeA (i:=0) (v:=?_) rfl rfl (by kernel_rfl) (by kernel_rfl) (by kernel_rfl) (fun _ _ _ h=>h) (Or.inl ⟨by rfl,?_⟩) ?_
    rotate_left
    ·intro w;first|(go_simp;done)|(go_simp;with_reducible rfl)
    try simp only[Act.put,List.setIfInBounds_toArray,List.set_cons_zero,List.set_cons_succ]
    refine takeA (i:=2) (v:=?_) rfl rfl (by kernel_rfl) (by kernel_rfl) (by kernel_rfl) (fun _ _ _ h=>h) (Or.inl ⟨by rfl,?_⟩) ?_
    rotate_left
    ·intro w;first|(go_simp;done)|(go_simp;with_reducible rfl)
    try simp only[Act.put,List.setIfInBounds_toArray,List.set_cons_zero,List.set_cons_succ]
    refine wpAny_ready (rs:=[1,3]) (by kernel_rfl) (by simp) ?_
    refine AllReady.cons rfl (fun K hK=>?_) ?_
    ·go_simp
     refine hK _ _ ?_
     clear hK K
     refine wpAny_ready (rs:=[3]) (by kernel_rfl) (by simp) ?_
     refine AllReady.cons rfl (fun K hK=>?_) AllReady.nil
     go_simp
     refine(HP.out w2.drew HR2.out.drew).mono ?_
     rintro r4 w4 ⟨hk4,rfl,t4,hr4⟩
     have HK4:Hid (KeepsB R w2 w4):=⟨hk4.os,hk4.tape,hk4.output,hk4.size,hk4.block⟩
     have HR4:Hid _:=hr4
     clear hk4 hr4
     go_wp2_with fail
     rw[HResE.out]
     exact⟨rfl,(KeepsB.ofBelow HB0.out).trans (HKw.out.trans (HK2w.out.trans HK4.out)),rfl,t4,HR4.out⟩
    ·refine AllReady.cons rfl (fun K hK=>?_) AllReady.nil
     go_simp
     refine(HP.out w2.drew HR2.out.drew).mono ?_
     rintro r4 w4 ⟨hk4,rfl,t4,hr4⟩
     have HK4:Hid (KeepsB R w2 w4):=⟨hk4.os,hk4.tape,hk4.output,hk4.size,hk4.block⟩
     have HR4:Hid _:=hr4
     clear hk4 hr4
     go_wp2_with fail
     rw[HResE.out]
     exact⟨rfl,(KeepsB.ofBelow HB0.out).trans (HKw.out.trans (HK2w.out.trans HK4.out)),rfl,t4,HR4.out⟩
   | ok pr =>
    obtain⟨e3,t3⟩:=pr
    have HL3:Hid (t3.length<r'.length+1+1):=nodeT_lt (ts:=u::u'::r') HNo.out hpp
    rw[hpp] at HP HCh
    have HC4:Hid (nodesL n op k (xs.map eltN.view++[e3]) t3=resq):=HCh.out
    have HL1:Hid (xs.length+1≤maxLen):=by have:=HFw.out;rw[Hid];unfold maxLen;omega
    have HL2:Hid ((xs.length+1)*128≤140737488355328):=by have:=HFw.out;rw[Hid];omega
    clear hpp HCh
    go_wp2_with fail
    go_region_law (first
     | (refine step_append_lies (w4.alloc (.cells (eltN.cells ⟨fl4,nm4,pl4,ia4,ic4,ins4,oa4,oc4,outs4,va4,vc4,vars4,qa4,qc4,eqs4⟩).toArray 60)) rfl (.tmp 11) (.tmp 14) 22 rfl D 60 i0 (.agg #[.bool false,.string ⟨#[]⟩,.int .i64 0,.slice none 0 0,.slice none 0 0,.slice none 0 0,.slice none 0 0]) 7 128 Tryz.underlying22 HI.out HZ0.out HZ1.out HZ2.out rfl (by decide) (.slice qa xs.length qc) xs.length (flatOf eltN.cells xs) (by simp[Act.eval]) (HI4.out.own.alloc _) ⟨w4.heap.size,0,none⟩ 1 1 (eltN.cells ⟨fl4,nm4,pl4,ia4,ic4,ins4,oa4,oc4,outs4,va4,vc4,vars4,qa4,qc4,eqs4⟩) (by simp[Act.eval]) rfl (news_at w4 _ _) (nd_one' _) (by decide) HL1.out HL2.out (by have:=HS4.out;simp;omega) (w4.alloc (.cells (eltN.cells ⟨fl4,nm4,pl4,ia4,ic4,ins4,oa4,oc4,outs4,va4,vc4,vars4,qa4,qc4,eqs4⟩).toArray 60)).heap.size rfl ?_;intro g cap w6 hown hgr hat hlt;obtain⟨p1,p2,p3⟩:=HAft.out _ w6 hgr;have HOW:Hid _:=hown;have HGR:Hid _:=hgr;have HAT:Hid _:=hat;clear hown hgr hat)
     | (go_simp;go_wp2_with (go_at_call 58;refine(HP.out w2.drew HR2.out.drew).mono ?_;rintro r4 w4 ⟨hk4,⟨v4,rfl,x4,hview,rfl,hlx⟩,hr4,hE4⟩;have HK4:Hid (KeepsB R w2 w4):=⟨hk4.os,hk4.tape,hk4.output,hk4.size,hk4.block⟩;have HI4:Hid (InL eltN R D 60 w xs (.slice qa xs.length qc) w4):=(HI2.out.keep HK2w.out HDd.out.2.2.1).keep HK4.out HDd.out.2.2.1;have HB4:Hid (Blk w4 N [.slice qa xs.length qc]):=HD2.out.keep HK4.out HDd.out.2.2.2.2;have HR4:Hid (RdAt W0 R t3 op w4):=hr4;have HE4:Hid (Ends t3):=hE4;have HV4:Hid (eltN.view x4=e3):=hview;have HX4:Hid (eltN.lies (fun k=>w2.heap.size≤k) w4 x4):=hlx;have HS4:Hid (D≤w4.heap.size):=Nat.le_trans HDw.out (Nat.le_trans HK2w.out.size HK4.out.size);have m6:w4.cell? ⟨N,0,none⟩=some (.slice qa xs.length qc):=HB4.out.get 0 rfl;have m6f:=HB4.out.2.1 0;have m6l:N<w4.heap.size:=HB4.out.2.2;have HAft:Hid (∀(ob:Obj)(w6:World),(w4.alloc ob).grownBy w6 (Value.ownBlock (.slice qa xs.length qc))→w6.cell? ⟨N,0,none⟩=some (.slice qa xs.length qc)∧w6.frozen? ⟨N,0,none⟩=false∧N<w6.heap.size):=fun ob w6 hg=>row_after (l:=[]) HB4.out rfl HI4.out HDd.out.2.1 hg;obtain⟨⟨fl4,nm4,pl4,ia4,ic4,ins4,oa4,oc4,outs4,va4,vc4,vars4,qa4,qc4,eqs4⟩,hx4⟩:∃y,y=x4:=⟨_,rfl⟩;subst hx4;clear hk4 hr4 hE4 hview hlx;simp only[Nd.val,Nd.cells])))
    all_goals
     have HNx:Hid _:=row_next (K:=eltN) (e:=60) (i:=0) (v:=.slice qa xs.length qc) (l:=[]) (W0:=W0) (op:=op) (ts:=t3) (x:=⟨fl4,nm4,pl4,ia4,ic4,ins4,oa4,oc4,outs4,va4,vc4,vars4,qa4,qc4,eqs4⟩) HI4.out HB4.out rfl (by have h1:=HDd.out;have h2:=HRd.out;exact⟨by omega,h1.2.1,h1.2.2.1,h1.2.2.2.1,by omega⟩) (HKw.out.trans (HK2w.out.trans HK4.out)) HR4.out HS4.out (eltN.mono HX4.out fun k _ (hq:w2.heap.size≤k)=>⟨by have:=HK2w.out.size;have:=HDw.out;omega,fun he=>by have:=(HI2.out.own.lt k he.symm).2;have:=HK2w.out.size;omega⟩) g cap HOW.out HGR.out HAT.out
     go_wp2_with fail
     go_roundw
     case rel =>
      refine⟨xs++[⟨fl4,nm4,pl4,ia4,ic4,ins4,oa4,oc4,outs4,va4,vc4,vars4,qa4,qc4,eqs4⟩],_,t3,k,HNx.out.1,HNx.out.2.1,HNx.out.2.2.1,HE4.out,?_,?_,HNx.out.2.2.2.1,HNx.out.2.2.2.2.1⟩
      ·rw[List.map_append,←HC4.out,←HV4.out];rfl
      ·have:=HFw.out
       have:=HL3.out
       simp only[List.length_append,List.length_cons,List.length_nil] at *
       omega
     case measure =>
      rw[HMeas.out,HNx.out.2.2.1.rest]
      exact HL3.out
  ·rw[decide_eq_false hn1] at CI
   go_wp2_with fail
   refine CI.mono ?_
   rintro r1 w1 ⟨rfl,hb1⟩
   have HR1:=hid (HRw.out.below hb1)
   have HK1w:Hid (KeepsB R wr w1):=KeepsB.ofBelow hb1
   clear CI hb1
   have CJ:=is_rd ⟨#[102,108,111,119]⟩ HR1.out
   simp only[rp] at CJ
   by_cases hn2:u.text=⟨#[102,108,111,119]⟩
   ·have HCh:Hid ((nodeT n op (u::r0)).then (fun q t1=>nodesL n op k (xs.map eltN.view++[q]) t1)=resq):=by rw[Hid,←HCh0.out];exact(if_pos (Or.inr hn2)).symm
    rw[decide_eq_true hn2] at CJ
    obtain⟨hE2,u',r',rfl⟩:=HEw.out.more (Or.inr (by rw[hn2];decide))
    have HE2:=hid hE2
    have HNo:Hid (isNode u):=Or.inr hn2
    clear hn1 hn2 hE2 HCh0
    go_wp2_with fail
    refine CJ.mono ?_
    rintro r2 w2 ⟨rfl,hb2⟩
    have HR2:=hid (HR1.out.below hb2)
    have HK2w:=hid (HK1w.out.trans (KeepsB.ofBelow hb2))
    clear CJ hb2
    have HD2:=hid (HBw.out.keep HK2w.out HDd.out.2.2.2.2)
    have HN2:Hid (∀k,nodeT n op (u::u'::r')≠.error (k,0)):=fun k h=>HNq.out k (by rw[←HCh.out,h];rfl)
    have HP:Hid (∀W,RdAt W0 R (u::u'::r') op W→Calls Tryz.prog 58 #[.pointer (some ⟨R,0,none⟩)] W (Post W0 R op W (nodeT n op (u::u'::r')) (IsNd W.heap.size))):=fun W h=>HNd.out u u' r' W HEw.out HE2.out h HN2.out
    have n6:=HD2.out.get 0 rfl
    have n6f:=HD2.out.2.1 0
    have hlN:=HD2.out.2.2
    clear HN2
    cases hpp:nodeT n op (u::u'::r') with
    | error er =>
     obtain⟨kk,ee⟩:=er
     rw[hpp] at HP HCh
     have HResE:Hid (resq=.error (kk,ee)):=HCh.out.symm
     clear hpp HCh
     go_wp2_with fail
     refine wp_region_any (by kernel_rfl) ?_
     change wpAny _ _ _ _ _ _ _ (World.drew _)
     refine takeA (i:=0) (v:=?_) rfl rfl (by kernel_rfl) (by kernel_rfl) (by kernel_rfl) (fun _ _ _ h=>h) (Or.inl ⟨by rfl,?_⟩) ?_
     rotate_left
     ·intro w;first|(go_simp;done)|(go_simp;with_reducible rfl)
     try simp only[Act.put,List.setIfInBounds_toArray,List.set_cons_zero,List.set_cons_succ]
     refine takeA (i:=2) (v:=?_) rfl rfl (by kernel_rfl) (by kernel_rfl) (by kernel_rfl) (fun _ _ _ h=>h) (Or.inl ⟨by rfl,?_⟩) ?_
     rotate_left
     ·intro w;first|(go_simp;done)|(go_simp;with_reducible rfl)
     try simp only[Act.put,List.setIfInBounds_toArray,List.set_cons_zero,List.set_cons_succ]
     refine wpAny_ready (rs:=[1,3]) (by kernel_rfl) (by simp) ?_
     refine AllReady.cons rfl (fun K hK=>?_) ?_
     ·go_simp
      refine hK _ _ ?_
      clear hK K
      refine wpAny_ready (rs:=[3]) (by kernel_rfl) (by simp) ?_
      refine AllReady.cons rfl (fun K hK=>?_) AllReady.nil
      go_simp
      refine(HP.out w2.drew HR2.out.drew).mono ?_
      rintro r4 w4 ⟨hk4,rfl,t4,hr4⟩
      have HK4:Hid (KeepsB R w2 w4):=⟨hk4.os,hk4.tape,hk4.output,hk4.size,hk4.block⟩
      have HR4:Hid _:=hr4
      clear hk4 hr4
      go_wp2_with fail
      rw[HResE.out]
      exact⟨rfl,(KeepsB.ofBelow HB0.out).trans (HKw.out.trans (HK2w.out.trans HK4.out)),rfl,t4,HR4.out⟩
     ·refine AllReady.cons rfl (fun K hK=>?_) AllReady.nil
      go_simp
      refine(HP.out w2.drew HR2.out.drew).mono ?_
      rintro r4 w4 ⟨hk4,rfl,t4,hr4⟩
      have HK4:Hid (KeepsB R w2 w4):=⟨hk4.os,hk4.tape,hk4.output,hk4.size,hk4.block⟩
      have HR4:Hid _:=hr4
      clear hk4 hr4
      go_wp2_with fail
      rw[HResE.out]
      exact⟨rfl,(KeepsB.ofBelow HB0.out).trans (HKw.out.trans (HK2w.out.trans HK4.out)),rfl,t4,HR4.out⟩
    | ok pr =>
     obtain⟨e3,t3⟩:=pr
     have HL3:Hid (t3.length<r'.length+1+1):=nodeT_lt (ts:=u::u'::r') HNo.out hpp
     rw[hpp] at HP HCh
     have HC4:Hid (nodesL n op k (xs.map eltN.view++[e3]) t3=resq):=HCh.out
     have HL1:Hid (xs.length+1≤maxLen):=by have:=HFw.out;rw[Hid];unfold maxLen;omega
     have HL2:Hid ((xs.length+1)*128≤140737488355328):=by have:=HFw.out;rw[Hid];omega
     clear hpp HCh
     go_wp2_with fail
     go_region_law (first
      | (refine step_append_lies (w4.alloc (.cells (eltN.cells ⟨fl4,nm4,pl4,ia4,ic4,ins4,oa4,oc4,outs4,va4,vc4,vars4,qa4,qc4,eqs4⟩).toArray 60)) rfl (.tmp 11) (.tmp 14) 22 rfl D 60 i0 (.agg #[.bool false,.string ⟨#[]⟩,.int .i64 0,.slice none 0 0,.slice none 0 0,.slice none 0 0,.slice none 0 0]) 7 128 Tryz.underlying22 HI.out HZ0.out HZ1.out HZ2.out rfl (by decide) (.slice qa xs.length qc) xs.length (flatOf eltN.cells xs) (by simp[Act.eval]) (HI4.out.own.alloc _) ⟨w4.heap.size,0,none⟩ 1 1 (eltN.cells ⟨fl4,nm4,pl4,ia4,ic4,ins4,oa4,oc4,outs4,va4,vc4,vars4,qa4,qc4,eqs4⟩) (by simp[Act.eval]) rfl (news_at w4 _ _) (nd_one' _) (by decide) HL1.out HL2.out (by have:=HS4.out;simp;omega) (w4.alloc (.cells (eltN.cells ⟨fl4,nm4,pl4,ia4,ic4,ins4,oa4,oc4,outs4,va4,vc4,vars4,qa4,qc4,eqs4⟩).toArray 60)).heap.size rfl ?_;intro g cap w6 hown hgr hat hlt;obtain⟨p1,p2,p3⟩:=HAft.out _ w6 hgr;have HOW:Hid _:=hown;have HGR:Hid _:=hgr;have HAT:Hid _:=hat;clear hown hgr hat)
      | (go_simp;go_wp2_with (go_at_call 58;refine(HP.out w2.drew HR2.out.drew).mono ?_;rintro r4 w4 ⟨hk4,⟨v4,rfl,x4,hview,rfl,hlx⟩,hr4,hE4⟩;have HK4:Hid (KeepsB R w2 w4):=⟨hk4.os,hk4.tape,hk4.output,hk4.size,hk4.block⟩;have HI4:Hid (InL eltN R D 60 w xs (.slice qa xs.length qc) w4):=(HI2.out.keep HK2w.out HDd.out.2.2.1).keep HK4.out HDd.out.2.2.1;have HB4:Hid (Blk w4 N [.slice qa xs.length qc]):=HD2.out.keep HK4.out HDd.out.2.2.2.2;have HR4:Hid (RdAt W0 R t3 op w4):=hr4;have HE4:Hid (Ends t3):=hE4;have HV4:Hid (eltN.view x4=e3):=hview;have HX4:Hid (eltN.lies (fun k=>w2.heap.size≤k) w4 x4):=hlx;have HS4:Hid (D≤w4.heap.size):=Nat.le_trans HDw.out (Nat.le_trans HK2w.out.size HK4.out.size);have m6:w4.cell? ⟨N,0,none⟩=some (.slice qa xs.length qc):=HB4.out.get 0 rfl;have m6f:=HB4.out.2.1 0;have m6l:N<w4.heap.size:=HB4.out.2.2;have HAft:Hid (∀(ob:Obj)(w6:World),(w4.alloc ob).grownBy w6 (Value.ownBlock (.slice qa xs.length qc))→w6.cell? ⟨N,0,none⟩=some (.slice qa xs.length qc)∧w6.frozen? ⟨N,0,none⟩=false∧N<w6.heap.size):=fun ob w6 hg=>row_after (l:=[]) HB4.out rfl HI4.out HDd.out.2.1 hg;obtain⟨⟨fl4,nm4,pl4,ia4,ic4,ins4,oa4,oc4,outs4,va4,vc4,vars4,qa4,qc4,eqs4⟩,hx4⟩:∃y,y=x4:=⟨_,rfl⟩;subst hx4;clear hk4 hr4 hE4 hview hlx;simp only[Nd.val,Nd.cells])))
     all_goals
      have HNx:Hid _:=row_next (K:=eltN) (e:=60) (i:=0) (v:=.slice qa xs.length qc) (l:=[]) (W0:=W0) (op:=op) (ts:=t3) (x:=⟨fl4,nm4,pl4,ia4,ic4,ins4,oa4,oc4,outs4,va4,vc4,vars4,qa4,qc4,eqs4⟩) HI4.out HB4.out rfl (by have h1:=HDd.out;have h2:=HRd.out;exact⟨by omega,h1.2.1,h1.2.2.1,h1.2.2.2.1,by omega⟩) (HKw.out.trans (HK2w.out.trans HK4.out)) HR4.out HS4.out (eltN.mono HX4.out fun k _ (hq:w2.heap.size≤k)=>⟨by have:=HK2w.out.size;have:=HDw.out;omega,fun he=>by have:=(HI2.out.own.lt k he.symm).2;have:=HK2w.out.size;omega⟩) g cap HOW.out HGR.out HAT.out
      go_wp2_with fail
      go_roundw
      case rel =>
       refine⟨xs++[⟨fl4,nm4,pl4,ia4,ic4,ins4,oa4,oc4,outs4,va4,vc4,vars4,qa4,qc4,eqs4⟩],_,t3,k,HNx.out.1,HNx.out.2.1,HNx.out.2.2.1,HE4.out,?_,?_,HNx.out.2.2.2.1,HNx.out.2.2.2.2.1⟩
       ·rw[List.map_append,←HC4.out,←HV4.out];rfl
       ·have:=HFw.out
        have:=HL3.out
        simp only[List.length_append,List.length_cons,List.length_nil] at *
        omega
      case measure =>
       rw[HMeas.out,HNx.out.2.2.1.rest]
       exact HL3.out
   ·have HRes3:Hid (resq=.ok (xs.map eltN.view,u::r0)):=by rw[Hid,←HCh0.out];exact if_neg fun h=>h.elim hn1 hn2
    rw[decide_eq_false hn2] at CJ
    clear hn1 hn2 HCh0
    go_wp2_with fail
    refine CJ.mono ?_
    rintro r2 w2 ⟨rfl,hb2⟩
    have HR2f:=hid (HR1.out.below hb2)
    have HK2w:=hid (HK1w.out.trans (KeepsB.ofBelow hb2))
    have HK2f:=hid (HKw.out.trans HK2w.out)
    have HD2f:=hid (HBw.out.keep HK2w.out HDd.out.2.2.2.2)
    have HLN:Hid (RowQ eltN (fun k=>w.heap.size<k) w2 qa qc xs):=by
     obtain⟨a',c',e1,e2⟩:=inL_rowQ (HI2.out.keep HK2w.out HDd.out.2.2.1) (by have:=HFw.out;omega)
     obtain⟨rfl,rfl⟩:a'=qa∧c'=qc:=by simpa [eq_comm] using e1
     exact e2.mono fun k _ (h:D≤k)=>by have:=HDd.out;omega
    clear CJ hb2
    have HO9:=hid (HO0.out.keep HK2f.out HneR.out)
    have HD9:=hid (HD2f.out)
    have z0:=HO9.out.get 0 rfl
    have g0:=HO9.out.2.1 0
    have d0:=HD9.out.get 0 rfl
    have hltw:=HO9.out.2.2
    have hltB:=HD9.out.2.2
    have hneB:=(Nat.ne_of_lt HDd.out.1).symm
    obtain⟨W9,hW9⟩:=nw (setFrom w2 w.heap.size 0 [.slice qa xs.length qc])
    have HY:Hid (Blk W9 w.heap.size [.slice qa xs.length qc]):=by rw[Hid,hW9];exact HO9.out.all _ rfl
    have HR10:Hid (RdAt W0 R (u::r0) op W9):=by rw[Hid,hW9];exact setFrom_rd HR2f.out HRd.out.1 _ _
    have HK10:Hid (KeepsB R w W9):=by rw[Hid,hW9];exact setFrom_keepsB ((KeepsB.ofBelow HB0.out).trans HK2f.out) (Nat.le_refl _) _ _
    have HW9:Hid ((w2.setCell ⟨w.heap.size,0,none⟩ (.slice qa xs.length qc))=W9):=by rw[Hid,hW9];rfl
    have HP9:Hid (IsPr w.heap.size W9 (xs.map eltN.view) (.agg #[.slice qa xs.length qc])):=by rw[Hid,hW9];exact⟨xs,qa,qc,rfl,rfl,(HLN.out.keep (setFrom_keepsQ (fun h=>Nat.lt_irrefl _ h) _ _)).mono fun k _ h=>Nat.le_of_lt h⟩
    clear hW9
    go_wp2_with fail
    rw[HW9.out]
    clear z0 g0 d0
    have z0:=HY.out.get 0 rfl
    refine bodyPost_ret (by simp[results,Tryz.results28,go_sem, *];try rfl) rfl ?_
    rw[HRes3.out]
    exact⟨HK10.out,⟨_,rfl,HP9.out⟩,HR10.out,HEw.out⟩
end Go.Proofs.YthbgnpkgglbhjaaGreatDoor
