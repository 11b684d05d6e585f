import Derived.Test.YthbgnpkgglbhjaaGreatDoorRdOps3
import Derived.LoopTactic
import Derived.Test.YthbgnpkgglbhjaaGreatDoorRdSp
namespace Go.Proofs.YthbgnpkgglbhjaaGreatDoor
open Go.RowKit Go.Shelf
open Ex.size Ex.depth Ex.lies Ex.bulk Ex.good Ex.bare
set_option maxRecDepth 100000 in
set_option maxHeartbeats 6400000 in
theorem cmp_rd{W0:World}{R:Nat}(n:Nat)(hp:DoesE W0 R 159 (pp n 6)):DoesE W0 R 148 (pp (n+1) 5):=by
 intro op ts w hE hrd hns
 obtain⟨w0,hw0⟩:∃w0:World,w0=w.alloc (.cells #[.int .u8 0,.int .i64 0,.string ⟨#[]⟩,.int .i64 0,.int .i64 0,.slice none 0 0] 27):=⟨_,rfl⟩
 have hb0:Below w.heap.size w w0:=by rw[hw0];exact bal _
 have hs0:w0.heap.size=w.heap.size+1:=by rw[hw0];simp
 have ho0:Own w0 w.heap.size:=by rw[hw0];exact Own.made w _ rfl
 have HRes:Hid (pp (n+1) 5 op ts=(pp n 6 op ts).then fun a t1=>match sgn 3 t1 with
   | none=>.ok (a,t1)
   | some k=>(pp n 6 op t1.tail).then fun b t2=>.ok (mk2 k a b,t2)):=rfl
 have HNs:Hid _:=hns
 have hns1:∀k,pp n 6 op ts≠.error (k,0):=fun k h=>hns k (by rw[HRes.out,h];rfl)
 have C1:=hp op ts w0 hE (hrd.below hb0) hns1
 have HM:Hid _:=hp
 have HW0:=hid hw0.symm
 have HB0:Hid _:=hb0
 have HS0:Hid _:=hs0
 have HO0:=hid ho0
 have HRd:Hid (W0.heap.size≤w.heap.size∧R<w.heap.size):=⟨hrd.keeps.size,hrd.lt⟩
 clear hp hE hrd hns hns1 hw0 hb0 hs0 ho0
 generalize pp (n+1) 5 op ts=res at HRes HNs ⊢
 generalize pp n 6 op ts=p1 at C1 HRes
 simp only[rp] at C1 ⊢
 go_enter Tryz.func148,Tryz.ntmps148
 go_wp2_with fail
 rw[HW0.out]
 refine C1.mono ?_
 rintro x w1 ⟨hk,hp⟩
 have HK1:=hid hk
 clear C1 hk
 cases p1 with
 | error er =>
  obtain⟨kk,ee⟩:=er
  obtain⟨rfl,t2,hr2⟩:=hp
  have HR2:Hid _:=hr2
  have HRes2:Hid (res=.error (kk,ee)):=HRes.out
  clear hr2
  go_wp2_with fail
  rw[HRes2.out]
  exact⟨rfl,(KeepsB.ofBelow HB0.out).trans HK1.out,rfl,t2,HR2.out⟩
 | ok pr =>
  obtain⟨a1,t1⟩:=pr
  obtain⟨⟨v,rfl,xa,rfl,rfl,hl,hg⟩,hr1,hE1⟩:=hp
  have HRes1:Hid (res=match sgn 3 t1 with
   | none=>.ok (xa.bare,t1)
   | some k=>(pp n 6 op t1.tail).then fun b t2=>.ok (mk2 k xa.bare b,t2)):=HRes.out
  obtain⟨wL,hwL⟩:=nw (w1.alloc (.cells xa.cells.toArray 27))
  have hbL:Below w1.heap.size w1 wL:=by rw[hwL];exact bal _
  obtain⟨B,hB⟩:=nw (w1.heap.size)
  have HBR:Hid (w.heap.size<B∧B≠R∧W0.heap.size≤B∧w.heap.size≠R):=by
   have h1:=HRd.out
   have h2:=HK1.out.size
   have h3:=HS0.out
   exact⟨by omega,by omega,by omega,by omega⟩
  have HBl:Hid (B<wL.heap.size):=by rw[Hid,hwL,hB];simp
  have HLL:Hid (Lies (fun k=>w.heap.size<k∧k≠B) wL xa):=(hl.mono fun k h1 (h2:w0.heap.size≤k)=>⟨by have:=HS0.out;omega,by omega⟩).keep (KeepsQ.ofBelow hbL)
  have HG:Hid xa.good:=hg
  have HKL:=hid ((KeepsB.ofBelow HB0.out).trans (HK1.out.trans (KeepsB.ofBelow hbL)))
  have HOL:=hid ((HO0.out.keep HK1.out HBR.out.2.2.2).keep (R:=R) (KeepsB.ofBelow hbL) HBR.out.2.2.2)
  have hrL:=hr1.below hbL
  have hcL:∀j,j<6→wL.cell? ⟨B,j,none⟩=xa.cells[j]?:=fun j _=>by rw[hwL];exact(World.cell?_alloc_at _ _ _ _ hB).trans (by simp)
  obtain⟨t,r,rfl⟩:=hE1.ne
  have CB:=between_rd 3 hrL hE1.fine
  have HRL:=hid hrL
  have HE1:=hid hE1
  obtain⟨kx,px,nx,ix,dx,ax,cx,lx⟩:=xa
  have HBk:Hid (∀W,KeepsB R wL W→(∀j,j<6→W.cell? ⟨B,j,none⟩=[.int .u8 kx,.int .i64 px,.string nx,.int .i64 ix,.int .i64 dx,.slice ax lx.length cx][j]?)):=fun W hk j hj=>(hk.cell HBl.out HBR.out.2.1).1.trans (hcL j hj)
  have HWL:Hid (w1.alloc (.cells #[.int .u8 kx,.int .i64 px,.string nx,.int .i64 ix,.int .i64 dx,.slice ax lx.length cx] 27)=wL):=hwL.symm
  clear hl hg hr1 hE1 hwL hbL hrL hcL HRes
  simp only[Ex.val,Ex.cells,rp] at CB ⊢
  cases hs:sgn 3 (t::r) with
  | none =>
   have HRes2:Hid (res=.ok (Ex.bare ⟨kx,px,nx,ix,dx,ax,cx,lx⟩,t::r)):=by rw[Hid,HRes1.out,hs]
   rw[hs] at CB
   simp only[Option.isSome_none] at CB
   clear hs
   go_wp2_with fail
   rw[HWL.out]
   simp only[←hB]
   clear hB
   refine CB.mono ?_
   rintro r2 w2 ⟨rfl,hb2⟩
   have HB2:=hid hb2
   have q1:=HBk.out w2 (KeepsB.ofBelow hb2)
   have c0:w2.cell? ⟨B,0,none⟩=some (.int .u8 kx):=q1 0 (by omega)
   have c1:w2.cell? ⟨B,1,none⟩=some (.int .i64 px):=q1 1 (by omega)
   have c2:w2.cell? ⟨B,2,none⟩=some (.string nx):=q1 2 (by omega)
   have c3:w2.cell? ⟨B,3,none⟩=some (.int .i64 ix):=q1 3 (by omega)
   have c4:w2.cell? ⟨B,4,none⟩=some (.int .i64 dx):=q1 4 (by omega)
   have c5:w2.cell? ⟨B,5,none⟩=some (.slice ax lx.length cx):=q1 5 (by omega)
   have HP:Hid _:=post_ex HRd.out.1 (HKL.out.trans (KeepsB.ofBelow HB2.out)) (HRL.out.below HB2.out) HE1.out ((HLL.out.keep (KeepsQ.ofBelow HB2.out)).mono fun k _ h=>h.1) HG.out
   have HOw:=hid (HOL.out.keep (R:=R) (KeepsB.ofBelow HB2.out) HBR.out.2.2.2)
   have hneB:=(Nat.ne_of_lt HBR.out.1).symm
   have hltB:=Nat.lt_of_lt_of_le HBl.out HB2.out.size
   clear CB hb2 q1
   have hown:=HOw.out
   have HY:Hid _:=exStore_cell ⟨kx,px,nx,ix,dx,ax,cx,lx⟩ fun j=>(hown.1 j).1
   have hlt:=hown.2
   obtain⟨W9,hW9⟩:=nw (exStore w2 w.heap.size ⟨kx,px,nx,ix,dx,ax,cx,lx⟩)
   rw[←hW9] at HP HY
   have HW9:Hid ((((((w2.setCell ⟨w.heap.size,0,none⟩ (.int .u8 kx)).setCell ⟨w.heap.size,1,none⟩ (.int .i64 px)).setCell ⟨w.heap.size,2,none⟩ (.string nx)).setCell ⟨w.heap.size,3,none⟩ (.int .i64 ix)).setCell ⟨w.heap.size,4,none⟩ (.int .i64 dx)).setCell ⟨w.heap.size,5,none⟩ (.slice ax lx.length cx)=W9):=hW9.symm
   have z0:w2.cell? ⟨w.heap.size,0,none⟩=some (.int .u8 0):=(hown.1 0).1
   have z1:w2.cell? ⟨w.heap.size,1,none⟩=some (.int .i64 0):=(hown.1 1).1
   have z2:w2.cell? ⟨w.heap.size,2,none⟩=some (.string ⟨#[]⟩):=(hown.1 2).1
   have z3:w2.cell? ⟨w.heap.size,3,none⟩=some (.int .i64 0):=(hown.1 3).1
   have z4:w2.cell? ⟨w.heap.size,4,none⟩=some (.int .i64 0):=(hown.1 4).1
   have z5:w2.cell? ⟨w.heap.size,5,none⟩=some (.slice none 0 0):=(hown.1 5).1
   have g0:=(hown.1 0).2
   have g1:=(hown.1 1).2
   have g2:=(hown.1 2).2
   have g3:=(hown.1 3).2
   have g4:=(hown.1 4).2
   have g5:=(hown.1 5).2
   clear hW9 hown
   go_wp2_with fail
   rw[HW9.out]
   clear z0 z1 z2 z3 z4 z5
   have z0:W9.cell? ⟨w.heap.size,0,none⟩=some (.int .u8 kx):=HY.out 0 (by omega)
   have z1:W9.cell? ⟨w.heap.size,1,none⟩=some (.int .i64 px):=HY.out 1 (by omega)
   have z2:W9.cell? ⟨w.heap.size,2,none⟩=some (.string nx):=HY.out 2 (by omega)
   have z3:W9.cell? ⟨w.heap.size,3,none⟩=some (.int .i64 ix):=HY.out 3 (by omega)
   have z4:W9.cell? ⟨w.heap.size,4,none⟩=some (.int .i64 dx):=HY.out 4 (by omega)
   have z5:W9.cell? ⟨w.heap.size,5,none⟩=some (.slice ax lx.length cx):=HY.out 5 (by omega)
   refine bodyPost_ret (by simp[results,Tryz.results148,go_sem, *];try rfl) rfl ?_
   rw[HRes2.out]
   exact HP.out
  | some k =>
   have hne:=sgn_text hs
   have HKwf:=hid (sgn_wf hs)
   obtain⟨hE2,t',r',rfl⟩:=HE1.out.more (Or.inr hne)
   have HE2:=hid hE2
   have HRes2:Hid (res=(pp n 6 op (t'::r')).then fun b t2=>.ok (mk2 k (Ex.bare ⟨kx,px,nx,ix,dx,ax,cx,lx⟩) b,t2)):=by rw[Hid,HRes1.out,hs];rfl
   have HN2:Hid (∀k,pp n 6 op (t'::r')≠.error (k,0)):=fun kk h=>HNs.out kk (by rw[HRes2.out,h];rfl)
   have HT:Hid (∀w2,Below wL.heap.size wL w2→Calls Tryz.prog 91 #[rp R] w2 fun x w'=>x=.returned (tkVal t)∧RdAt W0 R (t'::r') op w'∧KeepsB R w2 w'):=fun w2 hb=>take_rd (HRL.out.below hb)
   rw[hs] at CB
   simp only[Option.isSome_some,Option.getD_some,rp,tkVal,tkCells] at CB HT
   clear hs hne hE2
   go_wp2_with fail
   rw[HWL.out]
   simp only[←hB]
   clear hB
   refine CB.mono ?_
   rintro r2 w2 ⟨rfl,hb2⟩
   have HB2:=hid hb2
   have CT:=HT.out w2 hb2
   clear CB hb2
   go_wp2_with fail
   refine CT.mono ?_
   rintro r3 w3 ⟨rfl,hr3,hk3⟩
   have HR3:Hid _:=hr3
   have HKL3:=hid ((KeepsB.ofBelow HB2.out).trans hk3)
   have HK3:=hid (HKL.out.trans HKL3.out)
   clear CT hr3 hk3
   have hlt3:=Nat.lt_of_lt_of_le HBl.out HKL3.out.size
   have q1:=HBk.out w3 HKL3.out
   have c0:w3.cell? ⟨B,0,none⟩=some (.int .u8 kx):=q1 0 (by omega)
   have c1:w3.cell? ⟨B,1,none⟩=some (.int .i64 px):=q1 1 (by omega)
   have c2:w3.cell? ⟨B,2,none⟩=some (.string nx):=q1 2 (by omega)
   have c3:w3.cell? ⟨B,3,none⟩=some (.int .i64 ix):=q1 3 (by omega)
   have c4:w3.cell? ⟨B,4,none⟩=some (.int .i64 dx):=q1 4 (by omega)
   have c5:w3.cell? ⟨B,5,none⟩=some (.slice ax lx.length cx):=q1 5 (by omega)
   have HL3:Hid (Lies (fun k=>w.heap.size<k∧k≠B) w3 ⟨kx,px,nx,ix,dx,ax,cx,lx⟩):=HLL.out.keep (KeepsQ.ofB HKL3.out fun h=>by have:=HRd.out.2;omega)
   have HO3:=hid (HOL.out.keep HKL3.out HBR.out.2.2.2)
   have HP:Hid (∀W,Below w3.heap.size w3 W→Calls Tryz.prog 159 #[.pointer (some ⟨R,0,none⟩)] W (Post W0 R op W (pp n 6 op (t'::r')) (IsEx W.heap.size))):=fun W hb=>HM.out op (t'::r') W HE2.out (HR3.out.below hb) HN2.out
   have HJ:Hid (∀(y:Ex) W,Calls Tryz.prog 102 #[.int .u8 k,.agg #[.int .u8 kx,.int .i64 px,.string nx,.int .i64 ix,.int .i64 dx,.slice ax lx.length cx],y.val] W fun r w'=>∃c,r=.returned (.agg #[.int .u8 k,.int .i64 px,.string ⟨#[]⟩,.int .i64 0,.int .i64 0,.slice (some ⟨c,0,none⟩) 2 2])∧W.heap.size≤c∧c<w'.heap.size∧(∀j,j<12→w'.cell? ⟨c,j,none⟩=(Ex.cells ⟨kx,px,nx,ix,dx,ax,cx,lx⟩++y.cells)[j]?)∧Below W.heap.size W w'):=fun y W=>join_calls k ⟨kx,px,nx,ix,dx,ax,cx,lx⟩ y W
   cases hpp:pp n 6 op (t'::r') with
   | error er =>
    obtain⟨kk,ee⟩:=er
    rw[hpp] at HP HRes2
    have HRes3:Hid (res=.error (kk,ee)):=HRes2.out
    clear q1 HRes2 hpp
    go_wp2_with fail
    refine wp_region_any (by kernel_rfl) ?_
    change wpAny _ _ _ _ _ _ _ (World.drew _)
    refine wpAny_take (i:=0) (v:=?_) rfl (by kernel_rfl) (by kernel_rfl) (by kernel_rfl) (fun _ _ _ h=>h) (Or.inl ⟨by rfl,?_⟩) ?_
    rotate_left
    ·intro w;first|(go_simp;done)|(go_simp;with_reducible rfl)
    refine wpAny_take (i:=2) (v:=?_) rfl (by kernel_rfl) (by kernel_rfl) (by kernel_rfl) (fun _ _ _ h=>h) (Or.inl ⟨by rfl,?_⟩) ?_
    rotate_left
    ·intro w;first|(go_simp;done)|(go_simp;with_reducible rfl)
    refine wpAny_ready (rs:=[1,3]) (by kernel_rfl) (by simp) ?_
    refine AllReady.cons rfl (fun K hK=>?_) ?_
    ·go_simp
     refine hK _ _ ?_
     clear hK K
     refine wpAny_ready (rs:=[3]) (by kernel_rfl) (by simp) ?_
     refine AllReady.cons rfl (fun K hK=>?_) AllReady.nil
     go_simp
     refine(HP.out w3.drew ⟨rfl,rfl,rfl,Nat.le_refl _,fun _ _=>rfl⟩).mono ?_
     rintro r4 w4 ⟨hk4,rfl,t4,hr4⟩
     have HK4:Hid (KeepsB R w3 w4):=⟨hk4.os,hk4.tape,hk4.output,hk4.size,hk4.block⟩
     have HR4:Hid _:=hr4
     clear hk4 hr4
     go_wp2_with fail
     rw[HRes3.out]
     exact⟨rfl,HK3.out.trans HK4.out,rfl,t4,HR4.out⟩
    ·refine AllReady.cons rfl (fun K hK=>?_) AllReady.nil
     go_simp
     refine(HP.out w3.drew ⟨rfl,rfl,rfl,Nat.le_refl _,fun _ _=>rfl⟩).mono ?_
     rintro r4 w4 ⟨hk4,rfl,t4,hr4⟩
     have HK4:Hid (KeepsB R w3 w4):=⟨hk4.os,hk4.tape,hk4.output,hk4.size,hk4.block⟩
     have HR4:Hid _:=hr4
     clear hk4 hr4
     go_wp2_with fail
     rw[HRes3.out]
     exact⟨rfl,HK3.out.trans HK4.out,rfl,t4,HR4.out⟩
   | ok pr =>
    obtain⟨e2,t2⟩:=pr
    rw[hpp] at HP HRes2
    have HRes3:Hid (res=.ok (mk2 k (Ex.bare ⟨kx,px,nx,ix,dx,ax,cx,lx⟩) e2,t2)):=HRes2.out
    have hneB:=(Nat.ne_of_lt HBR.out.1).symm
    have HW3:=hid (HO3.out.2)
    clear q1 HRes2 hpp
    go_wp2_with fail
    go_region_law (first
     | (go_simp;refine(HP.out w3.drew ⟨rfl,rfl,rfl,Nat.le_refl _,fun _ _=>rfl⟩).mono ?_;rintro r4 w4 ⟨hk4,⟨v4,rfl,x4,hbx,rfl,hlx,hgx⟩,hr4,hE4⟩;have hk4':KeepsB R w3 w4:=⟨hk4.os,hk4.tape,hk4.output,hk4.size,hk4.block⟩;have q1:=HBk.out w4 (HKL3.out.trans hk4');have d0:w4.cell? ⟨B,0,none⟩=some (.int .u8 kx):=q1 0 (by omega);have d1:w4.cell? ⟨B,1,none⟩=some (.int .i64 px):=q1 1 (by omega);have d2:w4.cell? ⟨B,2,none⟩=some (.string nx):=q1 2 (by omega);have d3:w4.cell? ⟨B,3,none⟩=some (.int .i64 ix):=q1 3 (by omega);have d4:w4.cell? ⟨B,4,none⟩=some (.int .i64 dx):=q1 4 (by omega);have d5:w4.cell? ⟨B,5,none⟩=some (.slice ax lx.length cx):=q1 5 (by omega);have HK4:Hid _:=hk4';have HBX:Hid _:=hbx;have HLX:Hid (Lies (fun k=>w3.heap.size≤k) w4 x4):=hlx;have HGX:Hid _:=hgx;have HR4:Hid _:=hr4;have HE4:Hid (Ends t2):=hE4;clear hk4 hk4' q1 hbx hlx hgx hr4 hE4;go_wp2_with fail)
     | (go_simp;refine(HJ.out x4 w4).mono ?_;rintro r5 w5 ⟨cc,rfl,hj1,hj2,hj3,hj4⟩;have hk5:KeepsB R w3 w5:=HK4.out.trans (KeepsB.ofBelow hj4);have ow5:=HO3.out.keep hk5 HBR.out.2.2.2;have hlt5:w.heap.size<w5.heap.size:=ow5.2;have z0:w5.cell? ⟨w.heap.size,0,none⟩=some (.int .u8 0):=(ow5.1 0).1;have z1:w5.cell? ⟨w.heap.size,1,none⟩=some (.int .i64 0):=(ow5.1 1).1;have z2:w5.cell? ⟨w.heap.size,2,none⟩=some (.string ⟨#[]⟩):=(ow5.1 2).1;have z3:w5.cell? ⟨w.heap.size,3,none⟩=some (.int .i64 0):=(ow5.1 3).1;have z4:w5.cell? ⟨w.heap.size,4,none⟩=some (.int .i64 0):=(ow5.1 4).1;have z5:w5.cell? ⟨w.heap.size,5,none⟩=some (.slice none 0 0):=(ow5.1 5).1;have g0:=(ow5.1 0).2;have g1:=(ow5.1 1).2;have g2:=(ow5.1 2).2;have g3:=(ow5.1 3).2;have g4:=(ow5.1 4).2;have g5:=(ow5.1 5).2;have HO5:Hid (Own w5 w.heap.size):=ow5;have HK5:Hid _:=hk5;have HJ1:Hid _:=hj1;have HJ2:Hid _:=hj2;have HJ3:Hid _:=hj3;have HJ4:Hid _:=hj4;clear hj1 hj2 hj3 hj4 hk5 ow5;go_wp2_with fail)
     | go_simp)
    all_goals
     have hx5:Lies (fun k=>w.heap.size<k∧k≠B) w5 ⟨kx,px,nx,ix,dx,ax,cx,lx⟩:=(HL3.out.keep (KeepsQ.ofB HK4.out fun h=>by have:=HRd.out.2;omega)).keep (KeepsQ.ofBelow HJ4.out)
     have hy5:Lies (fun k=>w.heap.size<k∧k≠B) w5 x4:=(HLX.out.mono fun k _ h=>⟨by have:=HBR.out.1;omega,by omega⟩).keep (KeepsQ.ofBelow HJ4.out)
     have h4s:=HK4.out.size
     have hcc:=HJ1.out
     have hgx:=HG.out
     simp only[Ex.good] at hgx
     have hgN:Ex.good ⟨k,px,⟨#[]⟩,0,0,some ⟨cc,0,none⟩,2,[⟨kx,px,nx,ix,dx,ax,cx,lx⟩,x4]⟩:=⟨⟨HKwf.out,hgx.1.2.1,by decide +kernel,by decide,by decide,Nat.le_refl _,by decide +kernel⟩,HG.out,HGX.out,trivial⟩
     have hlN:Lies (fun k=>w.heap.size<k) w5 ⟨k,px,⟨#[]⟩,0,0,some ⟨cc,0,none⟩,2,[⟨kx,px,nx,ix,dx,ax,cx,lx⟩,x4]⟩:=(lies_two HJ3.out ⟨by have:=HBR.out.1;omega,by omega⟩ HJ2.out hx5 hy5).mono fun k _ h=>h.1
     have HP9:Hid _:=post_ex HRd.out.1 (HK3.out.trans HK5.out) (HR4.out.below HJ4.out) HE4.out hlN hgN
     have hRes:res=.ok (Ex.bare ⟨k,px,⟨#[]⟩,0,0,some ⟨cc,0,none⟩,2,[⟨kx,px,nx,ix,dx,ax,cx,lx⟩,x4]⟩,t2):=by rw[HRes3.out,←HBX.out];rfl
     have HY:Hid _:=exStore_cell ⟨k,px,⟨#[]⟩,0,0,some ⟨cc,0,none⟩,2,[⟨kx,px,nx,ix,dx,ax,cx,lx⟩,x4]⟩ fun j=>(HO5.out.1 j).1
     have HRs:Hid _:=hRes
     obtain⟨W9,hW9⟩:∃W9,W9=exStore w5 w.heap.size ⟨k,px,⟨#[]⟩,0,0,some ⟨cc,0,none⟩,2,[⟨kx,px,nx,ix,dx,ax,cx,lx⟩,x4]⟩:=⟨_,rfl⟩
     rw[←hW9] at HP9 HY
     have HW9:Hid ((((((w5.setCell ⟨w.heap.size,0,none⟩ (.int .u8 k)).setCell ⟨w.heap.size,1,none⟩ (.int .i64 px)).setCell ⟨w.heap.size,2,none⟩ (.string ⟨#[]⟩)).setCell ⟨w.heap.size,3,none⟩ (.int .i64 0)).setCell ⟨w.heap.size,4,none⟩ (.int .i64 0)).setCell ⟨w.heap.size,5,none⟩ (.slice (some ⟨cc,0,none⟩) 2 2)=W9):=hW9.symm
     clear hx5 hy5 hgx hgN hlN hRes hW9 h4s hcc
     go_wp2_with fail
     rw[HW9.out]
     clear z0 z1 z2 z3 z4 z5
     have z0:W9.cell? ⟨w.heap.size,0,none⟩=some (.int .u8 k):=HY.out 0 (by omega)
     have z1:W9.cell? ⟨w.heap.size,1,none⟩=some (.int .i64 px):=HY.out 1 (by omega)
     have z2:W9.cell? ⟨w.heap.size,2,none⟩=some (.string ⟨#[]⟩):=HY.out 2 (by omega)
     have z3:W9.cell? ⟨w.heap.size,3,none⟩=some (.int .i64 0):=HY.out 3 (by omega)
     have z4:W9.cell? ⟨w.heap.size,4,none⟩=some (.int .i64 0):=HY.out 4 (by omega)
     have z5:W9.cell? ⟨w.heap.size,5,none⟩=some (.slice (some ⟨cc,0,none⟩) 2 2):=HY.out 5 (by omega)
     refine bodyPost_ret (by simp[results,Tryz.results148,go_sem, *];try rfl) rfl ?_
     rw[HRs.out]
     exact HP9.out
attribute [local go_sem] tk_f0 tk_f1 tk_f2 tk_f3
set_option maxRecDepth 100000 in
set_option maxHeartbeats 6400000 in
theorem not1_rd{W0:World}{R:Nat}(n:Nat)(hp:DoesE W0 R 137 (pp n 4))(hp2:DoesE W0 R 148 (pp n 5)):DoesE W0 R 137 (pp (n+1) 4):=by
 intro op ts w hE hrd hns
 obtain⟨w0,hw0⟩:∃w0:World,w0=w.alloc (.cells #[.int .u8 0,.int .i64 0,.string ⟨#[]⟩,.int .i64 0,.int .i64 0,.slice none 0 0] 27):=⟨_,rfl⟩
 have hb0:Below w.heap.size w w0:=by rw[hw0];exact bal _
 have ho0:Own w0 w.heap.size:=by rw[hw0];exact Own.made w _ rfl
 have HW0:=hid hw0.symm
 have HB0:=hid hb0
 have HO0:=hid ho0
 have HRd:Hid (W0.heap.size≤w.heap.size∧R<w.heap.size):=⟨hrd.keeps.size,hrd.lt⟩
 have hneR:w.heap.size≠R:=by have:=hrd.lt;omega
 obtain⟨t,r,rfl⟩:=hE.ne
 have hr0:=hrd.below hb0
 have HR0:=hid hr0
 have HE:=hid hE
 have CI:=is_rd ⟨#[110,111,116]⟩ hr0
 by_cases hnot:t.text=⟨#[110,111,116]⟩
 ·obtain⟨hE2,t',r',rfl⟩:=hE.more (Or.inr (by rw[hnot];decide))
  have hres:pp (n+1) 4 op (t::t'::r')=openT op (t::t'::r') fun t1=>(pp n 4 (op+1) t1).then fun a t2=>.ok (mk1 6 t.place a 0 0,t2):=(show pp (n+1) 4 op (t::t'::r')=if t.text=⟨#[110,111,116]⟩ then (openT op (t::t'::r') fun t1=>(pp n 4 (op+1) t1).then fun a t2=>.ok (mk1 6 t.place a 0 0,t2)) else pp n 5 op (t::t'::r') from rfl).trans (if_pos hnot)
  have HA:Hid (∀W,RdAt W0 R (t::t'::r') op W→Calls Tryz.prog 147 #[rp R,.int .u8 6,.func (.func 137) #[rp R] #[]] W (Post W0 R op W (pp (n+1) 4 op (t::t'::r')) (IsEx W.heap.size))):=fun W hW=>ahead_rd 137 (enters_of Tryz.func137 (by kernel_rfl) rfl) (pp n 4) hp 6 (by decide) op t t' r' W hE hE2 hW _ hres hns
  rw[decide_eq_true hnot] at CI
  clear hp hp2 hE hrd hns hw0 hb0 ho0 hr0 hres hE2 hnot
  generalize pp (n+1) 4 op (t::t'::r')=res at HA ⊢
  simp only[rp] at CI HA ⊢
  go_enter Tryz.func137,Tryz.ntmps137
  go_wp2_with fail
  rw[HW0.out]
  refine CI.mono ?_
  rintro x1 u1 ⟨rfl,hb1⟩
  have HBN1:=hid (HB0.out.trans (hb1.mono HB0.out.size))
  have HON1:=hid (HO0.out.keep (R:=R) (KeepsB.ofBelow hb1) hneR)
  have HRN1:=hid (HR0.out.below hb1)
  clear CI hb1
  have CC:=HA.out u1 HRN1.out
  go_wp2_with fail
  refine CC.mono ?_
  rintro x v1 ⟨hk,hp⟩
  have HK1:=hid ((KeepsB.ofBelow HBN1.out).trans hk)
  have HK0:=hid hk
  clear CC hk
  cases res with
  | error er =>
   obtain⟨kk,ee⟩:=er
   obtain⟨rfl,t2,hr2⟩:=hp
   have HR2:Hid _:=hr2
   clear hr2
   go_wp2_with fail
   exact⟨rfl,HK1.out,rfl,t2,HR2.out⟩
  | ok pr =>
   obtain⟨a1,t1⟩:=pr
   obtain⟨⟨v,rfl,xa,rfl,rfl,hl,hg⟩,hr1,hE1⟩:=hp
   have HP:Hid _:=post_ex HRd.out.1 HK1.out hr1 hE1 (hl.mono fun k _ (h:u1.heap.size≤k)=>show w.heap.size<k by have:=HON1.out.2;omega) hg
   have hown:=HON1.out.keep HK0.out (show w.heap.size≠R by have:=HRd.out.2;omega)
   have HY:Hid _:=exStore_cell xa fun j=>(hown.1 j).1
   have hlt:=hown.2
   obtain⟨ka,pa,na,ia,da,aa,ca,la⟩:=xa
   obtain⟨W9,hW9⟩:=nw (exStore v1 w.heap.size ⟨ka,pa,na,ia,da,aa,ca,la⟩)
   rw[←hW9] at HP HY
   have HW9:Hid (((((((v1.setCell ⟨w.heap.size,0,none⟩ (.int .u8 ka)).setCell ⟨w.heap.size,1,none⟩ (.int .i64 pa)).setCell ⟨w.heap.size,2,none⟩ (.string na)).setCell ⟨w.heap.size,3,none⟩ (.int .i64 ia)).setCell ⟨w.heap.size,4,none⟩ (.int .i64 da)).setCell ⟨w.heap.size,5,none⟩ (.slice aa la.length ca))=W9):=hW9.symm
   have z0:v1.cell? ⟨w.heap.size,0,none⟩=some (.int .u8 0):=(hown.1 0).1
   have z1:v1.cell? ⟨w.heap.size,1,none⟩=some (.int .i64 0):=(hown.1 1).1
   have z2:v1.cell? ⟨w.heap.size,2,none⟩=some (.string ⟨#[]⟩):=(hown.1 2).1
   have z3:v1.cell? ⟨w.heap.size,3,none⟩=some (.int .i64 0):=(hown.1 3).1
   have z4:v1.cell? ⟨w.heap.size,4,none⟩=some (.int .i64 0):=(hown.1 4).1
   have z5:v1.cell? ⟨w.heap.size,5,none⟩=some (.slice none 0 0):=(hown.1 5).1
   have g0:=(hown.1 0).2
   have g1:=(hown.1 1).2
   have g2:=(hown.1 2).2
   have g3:=(hown.1 3).2
   have g4:=(hown.1 4).2
   have g5:=(hown.1 5).2
   clear hl hg hr1 hE1 hW9 hown
   simp only[Ex.val,Ex.cells]
   go_wp2_with fail
   rw[HW9.out]
   clear z0 z1 z2 z3 z4 z5
   have z0:W9.cell? ⟨w.heap.size,0,none⟩=some (.int .u8 ka):=HY.out 0 (by omega)
   have z1:W9.cell? ⟨w.heap.size,1,none⟩=some (.int .i64 pa):=HY.out 1 (by omega)
   have z2:W9.cell? ⟨w.heap.size,2,none⟩=some (.string na):=HY.out 2 (by omega)
   have z3:W9.cell? ⟨w.heap.size,3,none⟩=some (.int .i64 ia):=HY.out 3 (by omega)
   have z4:W9.cell? ⟨w.heap.size,4,none⟩=some (.int .i64 da):=HY.out 4 (by omega)
   have z5:W9.cell? ⟨w.heap.size,5,none⟩=some (.slice aa la.length ca):=HY.out 5 (by omega)
   refine bodyPost_ret (by simp[results,Tryz.results137,go_sem, *];try rfl) rfl ?_
   exact HP.out
 ·have hres:pp (n+1) 4 op (t::r)=pp n 5 op (t::r):=(show pp (n+1) 4 op (t::r)=if t.text=⟨#[110,111,116]⟩ then (openT op (t::r) fun t1=>(pp n 4 (op+1) t1).then fun a t2=>.ok (mk1 6 t.place a 0 0,t2)) else pp n 5 op (t::r) from rfl).trans (if_neg hnot)
  rw[hres] at hns ⊢
  have HA:Hid (∀W,RdAt W0 R (t::r) op W→Calls Tryz.prog 148 #[rp R] W (Post W0 R op W (pp n 5 op (t::r)) (IsEx W.heap.size))):=fun W hW=>hp2 op (t::r) W hE hW hns
  rw[decide_eq_false hnot] at CI
  clear hp hp2 hE hrd hns hw0 hb0 ho0 hr0 hres hnot
  generalize pp n 5 op (t::r)=res at HA ⊢
  simp only[rp] at CI HA ⊢
  go_enter Tryz.func137,Tryz.ntmps137
  go_wp2_with fail
  rw[HW0.out]
  refine CI.mono ?_
  rintro x1 u1 ⟨rfl,hb1⟩
  have HBN1:=hid (HB0.out.trans (hb1.mono HB0.out.size))
  have HON1:=hid (HO0.out.keep (R:=R) (KeepsB.ofBelow hb1) hneR)
  have HRN1:=hid (HR0.out.below hb1)
  clear CI hb1
  have CC:=HA.out u1 HRN1.out
  go_wp2_with fail
  refine CC.mono ?_
  rintro x v1 ⟨hk,hp⟩
  have HK1:=hid ((KeepsB.ofBelow HBN1.out).trans hk)
  have HK0:=hid hk
  clear CC hk
  cases res with
  | error er =>
   obtain⟨kk,ee⟩:=er
   obtain⟨rfl,t2,hr2⟩:=hp
   have HR2:Hid _:=hr2
   clear hr2
   go_wp2_with fail
   exact⟨rfl,HK1.out,rfl,t2,HR2.out⟩
  | ok pr =>
   obtain⟨a1,t1⟩:=pr
   obtain⟨⟨v,rfl,xa,rfl,rfl,hl,hg⟩,hr1,hE1⟩:=hp
   have HP:Hid _:=post_ex HRd.out.1 HK1.out hr1 hE1 (hl.mono fun k _ (h:u1.heap.size≤k)=>show w.heap.size<k by have:=HON1.out.2;omega) hg
   have hown:=HON1.out.keep HK0.out (show w.heap.size≠R by have:=HRd.out.2;omega)
   have HY:Hid _:=exStore_cell xa fun j=>(hown.1 j).1
   have hlt:=hown.2
   obtain⟨ka,pa,na,ia,da,aa,ca,la⟩:=xa
   obtain⟨W9,hW9⟩:=nw (exStore v1 w.heap.size ⟨ka,pa,na,ia,da,aa,ca,la⟩)
   rw[←hW9] at HP HY
   have HW9:Hid (((((((v1.setCell ⟨w.heap.size,0,none⟩ (.int .u8 ka)).setCell ⟨w.heap.size,1,none⟩ (.int .i64 pa)).setCell ⟨w.heap.size,2,none⟩ (.string na)).setCell ⟨w.heap.size,3,none⟩ (.int .i64 ia)).setCell ⟨w.heap.size,4,none⟩ (.int .i64 da)).setCell ⟨w.heap.size,5,none⟩ (.slice aa la.length ca))=W9):=hW9.symm
   have z0:v1.cell? ⟨w.heap.size,0,none⟩=some (.int .u8 0):=(hown.1 0).1
   have z1:v1.cell? ⟨w.heap.size,1,none⟩=some (.int .i64 0):=(hown.1 1).1
   have z2:v1.cell? ⟨w.heap.size,2,none⟩=some (.string ⟨#[]⟩):=(hown.1 2).1
   have z3:v1.cell? ⟨w.heap.size,3,none⟩=some (.int .i64 0):=(hown.1 3).1
   have z4:v1.cell? ⟨w.heap.size,4,none⟩=some (.int .i64 0):=(hown.1 4).1
   have z5:v1.cell? ⟨w.heap.size,5,none⟩=some (.slice none 0 0):=(hown.1 5).1
   have g0:=(hown.1 0).2
   have g1:=(hown.1 1).2
   have g2:=(hown.1 2).2
   have g3:=(hown.1 3).2
   have g4:=(hown.1 4).2
   have g5:=(hown.1 5).2
   clear hl hg hr1 hE1 hW9 hown
   simp only[Ex.val,Ex.cells]
   go_wp2_with fail
   rw[HW9.out]
   clear z0 z1 z2 z3 z4 z5
   have z0:W9.cell? ⟨w.heap.size,0,none⟩=some (.int .u8 ka):=HY.out 0 (by omega)
   have z1:W9.cell? ⟨w.heap.size,1,none⟩=some (.int .i64 pa):=HY.out 1 (by omega)
   have z2:W9.cell? ⟨w.heap.size,2,none⟩=some (.string na):=HY.out 2 (by omega)
   have z3:W9.cell? ⟨w.heap.size,3,none⟩=some (.int .i64 ia):=HY.out 3 (by omega)
   have z4:W9.cell? ⟨w.heap.size,4,none⟩=some (.int .i64 da):=HY.out 4 (by omega)
   have z5:W9.cell? ⟨w.heap.size,5,none⟩=some (.slice aa la.length ca):=HY.out 5 (by omega)
   refine bodyPost_ret (by simp[results,Tryz.results137,go_sem, *];try rfl) rfl ?_
   exact HP.out
set_option maxRecDepth 100000 in
set_option maxHeartbeats 6400000 in
theorem unary_rd{W0:World}{R:Nat}(n:Nat)(hp:DoesE W0 R 163 (pp n 8))(hp2:DoesE W0 R 168 (pp n 9)):DoesE W0 R 163 (pp (n+1) 8):=by
 intro op ts w hE hrd hns
 obtain⟨w0,hw0⟩:∃w0:World,w0=w.alloc (.cells #[.int .u8 0,.int .i64 0,.string ⟨#[]⟩,.int .i64 0,.int .i64 0,.slice none 0 0] 27):=⟨_,rfl⟩
 have hb0:Below w.heap.size w w0:=by rw[hw0];exact bal _
 have ho0:Own w0 w.heap.size:=by rw[hw0];exact Own.made w _ rfl
 have HW0:=hid hw0.symm
 have HB0:=hid hb0
 have HO0:=hid ho0
 have HRd:Hid (W0.heap.size≤w.heap.size∧R<w.heap.size):=⟨hrd.keeps.size,hrd.lt⟩
 have hneR:w.heap.size≠R:=by have:=hrd.lt;omega
 obtain⟨t,r,rfl⟩:=hE.ne
 have hr0:=hrd.below hb0
 have HR0:=hid hr0
 have HE:=hid hE
 have CI:=is_rd ⟨#[45]⟩ hr0
 by_cases h1:t.text=⟨#[45]⟩
 ·obtain⟨hE2,t',r',rfl⟩:=hE.more (Or.inr (by rw[h1];decide))
  have hres:pp (n+1) 8 op (t::t'::r')=openT op (t::t'::r') fun t1=>(pp n 8 (op+1) t1).then fun a t2=>.ok (mk1 5 t.place a 0 0,t2):=(show pp (n+1) 8 op (t::t'::r')=if t.text=⟨#[45]⟩ then (openT op (t::t'::r') fun t1=>(pp n 8 (op+1) t1).then fun a t2=>.ok (mk1 5 t.place a 0 0,t2)) else if t.text=⟨#[116,97,105,108]⟩ then (openT op (t::t'::r') fun t1=>(pp n 8 (op+1) t1).then fun a t2=>.ok (mk1 23 t.place a 0 0,t2)) else pp n 9 op (t::t'::r') from rfl).trans (if_pos h1)
  have HA:Hid (∀W,RdAt W0 R (t::t'::r') op W→Calls Tryz.prog 147 #[rp R,.int .u8 5,.func (.func 163) #[rp R] #[]] W (Post W0 R op W (pp (n+1) 8 op (t::t'::r')) (IsEx W.heap.size))):=fun W hW=>ahead_rd 163 (enters_of Tryz.func163 (by kernel_rfl) rfl) (pp n 8) hp 5 (by decide) op t t' r' W hE hE2 hW _ hres hns
  rw[decide_eq_true h1] at CI
  clear hp hp2 hE hrd hns hw0 hb0 ho0 hr0 hres hE2 h1
  generalize pp (n+1) 8 op (t::t'::r')=res at HA ⊢
  simp only[rp] at CI HA ⊢
  go_enter Tryz.func163,Tryz.ntmps163
  go_wp2_with fail
  rw[HW0.out]
  refine CI.mono ?_
  rintro x1 u1 ⟨rfl,hb1⟩
  have HBN1:=hid (HB0.out.trans (hb1.mono HB0.out.size))
  have HON1:=hid (HO0.out.keep (R:=R) (KeepsB.ofBelow hb1) hneR)
  have HRN1:=hid (HR0.out.below hb1)
  clear CI hb1
  have CC:=HA.out u1 HRN1.out
  go_wp2_with fail
  refine CC.mono ?_
  rintro x v1 ⟨hk,hp⟩
  have HK1:=hid ((KeepsB.ofBelow HBN1.out).trans hk)
  have HK0:=hid hk
  clear CC hk
  cases res with
  | error er =>
   obtain⟨kk,ee⟩:=er
   obtain⟨rfl,t2,hr2⟩:=hp
   have HR2:Hid _:=hr2
   clear hr2
   go_wp2_with fail
   exact⟨rfl,HK1.out,rfl,t2,HR2.out⟩
  | ok pr =>
   obtain⟨a1,t1⟩:=pr
   obtain⟨⟨v,rfl,xa,rfl,rfl,hl,hg⟩,hr1,hE1⟩:=hp
   have HP:Hid _:=post_ex HRd.out.1 HK1.out hr1 hE1 (hl.mono fun k _ (h:u1.heap.size≤k)=>show w.heap.size<k by have:=HON1.out.2;omega) hg
   have hown:=HON1.out.keep HK0.out (show w.heap.size≠R by have:=HRd.out.2;omega)
   have HY:Hid _:=exStore_cell xa fun j=>(hown.1 j).1
   have hlt:=hown.2
   obtain⟨ka,pa,na,ia,da,aa,ca,la⟩:=xa
   obtain⟨W9,hW9⟩:=nw (exStore v1 w.heap.size ⟨ka,pa,na,ia,da,aa,ca,la⟩)
   rw[←hW9] at HP HY
   have HW9:Hid (((((((v1.setCell ⟨w.heap.size,0,none⟩ (.int .u8 ka)).setCell ⟨w.heap.size,1,none⟩ (.int .i64 pa)).setCell ⟨w.heap.size,2,none⟩ (.string na)).setCell ⟨w.heap.size,3,none⟩ (.int .i64 ia)).setCell ⟨w.heap.size,4,none⟩ (.int .i64 da)).setCell ⟨w.heap.size,5,none⟩ (.slice aa la.length ca))=W9):=hW9.symm
   have z0:v1.cell? ⟨w.heap.size,0,none⟩=some (.int .u8 0):=(hown.1 0).1
   have z1:v1.cell? ⟨w.heap.size,1,none⟩=some (.int .i64 0):=(hown.1 1).1
   have z2:v1.cell? ⟨w.heap.size,2,none⟩=some (.string ⟨#[]⟩):=(hown.1 2).1
   have z3:v1.cell? ⟨w.heap.size,3,none⟩=some (.int .i64 0):=(hown.1 3).1
   have z4:v1.cell? ⟨w.heap.size,4,none⟩=some (.int .i64 0):=(hown.1 4).1
   have z5:v1.cell? ⟨w.heap.size,5,none⟩=some (.slice none 0 0):=(hown.1 5).1
   have g0:=(hown.1 0).2
   have g1:=(hown.1 1).2
   have g2:=(hown.1 2).2
   have g3:=(hown.1 3).2
   have g4:=(hown.1 4).2
   have g5:=(hown.1 5).2
   clear hl hg hr1 hE1 hW9 hown
   simp only[Ex.val,Ex.cells]
   go_wp2_with fail
   rw[HW9.out]
   clear z0 z1 z2 z3 z4 z5
   have z0:W9.cell? ⟨w.heap.size,0,none⟩=some (.int .u8 ka):=HY.out 0 (by omega)
   have z1:W9.cell? ⟨w.heap.size,1,none⟩=some (.int .i64 pa):=HY.out 1 (by omega)
   have z2:W9.cell? ⟨w.heap.size,2,none⟩=some (.string na):=HY.out 2 (by omega)
   have z3:W9.cell? ⟨w.heap.size,3,none⟩=some (.int .i64 ia):=HY.out 3 (by omega)
   have z4:W9.cell? ⟨w.heap.size,4,none⟩=some (.int .i64 da):=HY.out 4 (by omega)
   have z5:W9.cell? ⟨w.heap.size,5,none⟩=some (.slice aa la.length ca):=HY.out 5 (by omega)
   refine bodyPost_ret (by simp[results,Tryz.results163,go_sem, *];try rfl) rfl ?_
   exact HP.out
 ·have HI:Hid (∀W,RdAt W0 R (t::r) op W→Calls Tryz.prog 57 #[rp R,.string ⟨#[116,97,105,108]⟩] W fun x w'=>x=.returned (.bool (decide (t.text=⟨#[116,97,105,108]⟩)))∧Below W.heap.size W w'):=fun W hW=>is_rd _ hW
  rw[decide_eq_false h1] at CI
  by_cases h2:t.text=⟨#[116,97,105,108]⟩
  ·obtain⟨hE2,t',r',rfl⟩:=hE.more (Or.inr (by rw[h2];decide))
   have hres:pp (n+1) 8 op (t::t'::r')=openT op (t::t'::r') fun t1=>(pp n 8 (op+1) t1).then fun a t2=>.ok (mk1 23 t.place a 0 0,t2):=((show pp (n+1) 8 op (t::t'::r')=if t.text=⟨#[45]⟩ then (openT op (t::t'::r') fun t1=>(pp n 8 (op+1) t1).then fun a t2=>.ok (mk1 5 t.place a 0 0,t2)) else if t.text=⟨#[116,97,105,108]⟩ then (openT op (t::t'::r') fun t1=>(pp n 8 (op+1) t1).then fun a t2=>.ok (mk1 23 t.place a 0 0,t2)) else pp n 9 op (t::t'::r') from rfl).trans (if_neg h1)).trans (if_pos h2)
   have HA:Hid (∀W,RdAt W0 R (t::t'::r') op W→Calls Tryz.prog 147 #[rp R,.int .u8 23,.func (.func 163) #[rp R] #[]] W (Post W0 R op W (pp (n+1) 8 op (t::t'::r')) (IsEx W.heap.size))):=fun W hW=>ahead_rd 163 (enters_of Tryz.func163 (by kernel_rfl) rfl) (pp n 8) hp 23 (by decide) op t t' r' W hE hE2 hW _ hres hns
   rw[decide_eq_true h2] at HI
   clear hp hp2 hE hrd hns hw0 hb0 ho0 hr0 hres hE2 h1 h2
   generalize pp (n+1) 8 op (t::t'::r')=res at HA ⊢
   simp only[rp] at CI HI HA ⊢
   go_enter Tryz.func163,Tryz.ntmps163
   go_wp2_with fail
   rw[HW0.out]
   refine CI.mono ?_
   rintro x1 u1 ⟨rfl,hb1⟩
   have HBN1:=hid (HB0.out.trans (hb1.mono HB0.out.size))
   have HON1:=hid (HO0.out.keep (R:=R) (KeepsB.ofBelow hb1) hneR)
   have HRN1:=hid (HR0.out.below hb1)
   clear CI hb1
   have CI:=HI.out u1 HRN1.out
   go_wp2_with fail
   refine CI.mono ?_
   rintro x2 u2 ⟨rfl,hb2⟩
   have HBN2:=hid (HBN1.out.trans (hb2.mono HBN1.out.size))
   have HON2:=hid (HON1.out.keep (R:=R) (KeepsB.ofBelow hb2) hneR)
   have HRN2:=hid (HRN1.out.below hb2)
   clear CI hb2
   have CC:=HA.out u2 HRN2.out
   go_wp2_with fail
   refine CC.mono ?_
   rintro x v1 ⟨hk,hp⟩
   have HK1:=hid ((KeepsB.ofBelow HBN2.out).trans hk)
   have HK0:=hid hk
   clear CC hk
   cases res with
   | error er =>
    obtain⟨kk,ee⟩:=er
    obtain⟨rfl,t2,hr2⟩:=hp
    have HR2:Hid _:=hr2
    clear hr2
    go_wp2_with fail
    exact⟨rfl,HK1.out,rfl,t2,HR2.out⟩
   | ok pr =>
    obtain⟨a1,t1⟩:=pr
    obtain⟨⟨v,rfl,xa,rfl,rfl,hl,hg⟩,hr1,hE1⟩:=hp
    have HP:Hid _:=post_ex HRd.out.1 HK1.out hr1 hE1 (hl.mono fun k _ (h:u2.heap.size≤k)=>show w.heap.size<k by have:=HON2.out.2;omega) hg
    have hown:=HON2.out.keep HK0.out (show w.heap.size≠R by have:=HRd.out.2;omega)
    have HY:Hid _:=exStore_cell xa fun j=>(hown.1 j).1
    have hlt:=hown.2
    obtain⟨ka,pa,na,ia,da,aa,ca,la⟩:=xa
    obtain⟨W9,hW9⟩:=nw (exStore v1 w.heap.size ⟨ka,pa,na,ia,da,aa,ca,la⟩)
    rw[←hW9] at HP HY
    have HW9:Hid (((((((v1.setCell ⟨w.heap.size,0,none⟩ (.int .u8 ka)).setCell ⟨w.heap.size,1,none⟩ (.int .i64 pa)).setCell ⟨w.heap.size,2,none⟩ (.string na)).setCell ⟨w.heap.size,3,none⟩ (.int .i64 ia)).setCell ⟨w.heap.size,4,none⟩ (.int .i64 da)).setCell ⟨w.heap.size,5,none⟩ (.slice aa la.length ca))=W9):=hW9.symm
    have z0:v1.cell? ⟨w.heap.size,0,none⟩=some (.int .u8 0):=(hown.1 0).1
    have z1:v1.cell? ⟨w.heap.size,1,none⟩=some (.int .i64 0):=(hown.1 1).1
    have z2:v1.cell? ⟨w.heap.size,2,none⟩=some (.string ⟨#[]⟩):=(hown.1 2).1
    have z3:v1.cell? ⟨w.heap.size,3,none⟩=some (.int .i64 0):=(hown.1 3).1
    have z4:v1.cell? ⟨w.heap.size,4,none⟩=some (.int .i64 0):=(hown.1 4).1
    have z5:v1.cell? ⟨w.heap.size,5,none⟩=some (.slice none 0 0):=(hown.1 5).1
    have g0:=(hown.1 0).2
    have g1:=(hown.1 1).2
    have g2:=(hown.1 2).2
    have g3:=(hown.1 3).2
    have g4:=(hown.1 4).2
    have g5:=(hown.1 5).2
    clear hl hg hr1 hE1 hW9 hown
    simp only[Ex.val,Ex.cells]
    go_wp2_with fail
    rw[HW9.out]
    clear z0 z1 z2 z3 z4 z5
    have z0:W9.cell? ⟨w.heap.size,0,none⟩=some (.int .u8 ka):=HY.out 0 (by omega)
    have z1:W9.cell? ⟨w.heap.size,1,none⟩=some (.int .i64 pa):=HY.out 1 (by omega)
    have z2:W9.cell? ⟨w.heap.size,2,none⟩=some (.string na):=HY.out 2 (by omega)
    have z3:W9.cell? ⟨w.heap.size,3,none⟩=some (.int .i64 ia):=HY.out 3 (by omega)
    have z4:W9.cell? ⟨w.heap.size,4,none⟩=some (.int .i64 da):=HY.out 4 (by omega)
    have z5:W9.cell? ⟨w.heap.size,5,none⟩=some (.slice aa la.length ca):=HY.out 5 (by omega)
    refine bodyPost_ret (by simp[results,Tryz.results163,go_sem, *];try rfl) rfl ?_
    exact HP.out
  ·have hres:pp (n+1) 8 op (t::r)=pp n 9 op (t::r):=((show pp (n+1) 8 op (t::r)=if t.text=⟨#[45]⟩ then (openT op (t::r) fun t1=>(pp n 8 (op+1) t1).then fun a t2=>.ok (mk1 5 t.place a 0 0,t2)) else if t.text=⟨#[116,97,105,108]⟩ then (openT op (t::r) fun t1=>(pp n 8 (op+1) t1).then fun a t2=>.ok (mk1 23 t.place a 0 0,t2)) else pp n 9 op (t::r) from rfl).trans (if_neg h1)).trans (if_neg h2)
   rw[hres] at hns ⊢
   have HA:Hid (∀W,RdAt W0 R (t::r) op W→Calls Tryz.prog 168 #[rp R] W (Post W0 R op W (pp n 9 op (t::r)) (IsEx W.heap.size))):=fun W hW=>hp2 op (t::r) W hE hW hns
   rw[decide_eq_false h2] at HI
   clear hp hp2 hE hrd hns hw0 hb0 ho0 hr0 hres h1 h2
   generalize pp n 9 op (t::r)=res at HA ⊢
   simp only[rp] at CI HI HA ⊢
   go_enter Tryz.func163,Tryz.ntmps163
   go_wp2_with fail
   rw[HW0.out]
   refine CI.mono ?_
   rintro x1 u1 ⟨rfl,hb1⟩
   have HBN1:=hid (HB0.out.trans (hb1.mono HB0.out.size))
   have HON1:=hid (HO0.out.keep (R:=R) (KeepsB.ofBelow hb1) hneR)
   have HRN1:=hid (HR0.out.below hb1)
   clear CI hb1
   have CI:=HI.out u1 HRN1.out
   go_wp2_with fail
   refine CI.mono ?_
   rintro x2 u2 ⟨rfl,hb2⟩
   have HBN2:=hid (HBN1.out.trans (hb2.mono HBN1.out.size))
   have HON2:=hid (HON1.out.keep (R:=R) (KeepsB.ofBelow hb2) hneR)
   have HRN2:=hid (HRN1.out.below hb2)
   clear CI hb2
   have CC:=HA.out u2 HRN2.out
   go_wp2_with fail
   refine CC.mono ?_
   rintro x v1 ⟨hk,hp⟩
   have HK1:=hid ((KeepsB.ofBelow HBN2.out).trans hk)
   have HK0:=hid hk
   clear CC hk
   cases res with
   | error er =>
    obtain⟨kk,ee⟩:=er
    obtain⟨rfl,t2,hr2⟩:=hp
    have HR2:Hid _:=hr2
    clear hr2
    go_wp2_with fail
    exact⟨rfl,HK1.out,rfl,t2,HR2.out⟩
   | ok pr =>
    obtain⟨a1,t1⟩:=pr
    obtain⟨⟨v,rfl,xa,rfl,rfl,hl,hg⟩,hr1,hE1⟩:=hp
    have HP:Hid _:=post_ex HRd.out.1 HK1.out hr1 hE1 (hl.mono fun k _ (h:u2.heap.size≤k)=>show w.heap.size<k by have:=HON2.out.2;omega) hg
    have hown:=HON2.out.keep HK0.out (show w.heap.size≠R by have:=HRd.out.2;omega)
    have HY:Hid _:=exStore_cell xa fun j=>(hown.1 j).1
    have hlt:=hown.2
    obtain⟨ka,pa,na,ia,da,aa,ca,la⟩:=xa
    obtain⟨W9,hW9⟩:=nw (exStore v1 w.heap.size ⟨ka,pa,na,ia,da,aa,ca,la⟩)
    rw[←hW9] at HP HY
    have HW9:Hid (((((((v1.setCell ⟨w.heap.size,0,none⟩ (.int .u8 ka)).setCell ⟨w.heap.size,1,none⟩ (.int .i64 pa)).setCell ⟨w.heap.size,2,none⟩ (.string na)).setCell ⟨w.heap.size,3,none⟩ (.int .i64 ia)).setCell ⟨w.heap.size,4,none⟩ (.int .i64 da)).setCell ⟨w.heap.size,5,none⟩ (.slice aa la.length ca))=W9):=hW9.symm
    have z0:v1.cell? ⟨w.heap.size,0,none⟩=some (.int .u8 0):=(hown.1 0).1
    have z1:v1.cell? ⟨w.heap.size,1,none⟩=some (.int .i64 0):=(hown.1 1).1
    have z2:v1.cell? ⟨w.heap.size,2,none⟩=some (.string ⟨#[]⟩):=(hown.1 2).1
    have z3:v1.cell? ⟨w.heap.size,3,none⟩=some (.int .i64 0):=(hown.1 3).1
    have z4:v1.cell? ⟨w.heap.size,4,none⟩=some (.int .i64 0):=(hown.1 4).1
    have z5:v1.cell? ⟨w.heap.size,5,none⟩=some (.slice none 0 0):=(hown.1 5).1
    have g0:=(hown.1 0).2
    have g1:=(hown.1 1).2
    have g2:=(hown.1 2).2
    have g3:=(hown.1 3).2
    have g4:=(hown.1 4).2
    have g5:=(hown.1 5).2
    clear hl hg hr1 hE1 hW9 hown
    simp only[Ex.val,Ex.cells]
    go_wp2_with fail
    rw[HW9.out]
    clear z0 z1 z2 z3 z4 z5
    have z0:W9.cell? ⟨w.heap.size,0,none⟩=some (.int .u8 ka):=HY.out 0 (by omega)
    have z1:W9.cell? ⟨w.heap.size,1,none⟩=some (.int .i64 pa):=HY.out 1 (by omega)
    have z2:W9.cell? ⟨w.heap.size,2,none⟩=some (.string na):=HY.out 2 (by omega)
    have z3:W9.cell? ⟨w.heap.size,3,none⟩=some (.int .i64 ia):=HY.out 3 (by omega)
    have z4:W9.cell? ⟨w.heap.size,4,none⟩=some (.int .i64 da):=HY.out 4 (by omega)
    have z5:W9.cell? ⟨w.heap.size,5,none⟩=some (.slice aa la.length ca):=HY.out 5 (by omega)
    refine bodyPost_ret (by simp[results,Tryz.results163,go_sem, *];try rfl) rfl ?_
    exact HP.out
end Go.Proofs.YthbgnpkgglbhjaaGreatDoor
namespace Go.Proofs.YthbgnpkgglbhjaaGreatDoor
open Go.RowKit Go.Shelf
open Ex.size Ex.depth Ex.lies Ex.bulk Ex.good Ex.bare
theorem numT_wf{l a:Int}{t:Tok}{ts t2:List Tok}(hE:Ends (t::ts))(h:numT l (t::ts)=.ok (a,t2)):(Lit.int .i64 a).wf=true∧t2.length≤ts.length:=by
 by_cases hn:t.kind=2∧¬t.int<l
 ·rw[numT_ok hn] at h
  injection h with h
  injection h with h1 h2
  subst h1
  subst h2
  exact⟨hE.fine.2.1,Nat.le_refl _⟩
 ·rw[numT_bad hn] at h
  cases h
theorem lateT_wf{a b:Int}{t:Tok}{ts t2:List Tok}(hE:Ends (t::ts))(h:lateT (t::ts)=.ok ((a,b),t2)):(Lit.int .i64 a).wf=true∧(Lit.int .i64 b).wf=true∧t2.length≤ts.length:=by
 obtain⟨a1,t1,h1,h2⟩:=PR.ok_of_then (show(numT 0 (t::ts)).then (fun a ts1=>if (hd ts1).text=⟨#[47]⟩ then (numT 1 ts1.tail).then fun b ts2=>.ok ((a,b),ts2) else .ok ((a,1),ts1))=.ok ((a,b),t2) from h)
 obtain⟨w1,l1⟩:=numT_wf hE h1
 have ht1:t1=ts:=by
  by_cases hn:t.kind=2∧¬t.int<0
  ·rw[numT_ok hn] at h1
   injection h1 with h1
   injection h1 with _ h1
   exact h1.symm
  ·rw[numT_bad hn] at h1
   cases h1
 subst ht1
 by_cases hs:(hd t1).text=⟨#[47]⟩
 ·rw[if_pos hs] at h2
  obtain⟨b1,t3,h3,h4⟩:=PR.ok_of_then h2
  injection h4 with h4
  injection h4 with h5 h6
  injection h5 with h7 h8
  subst h6 h7 h8
  obtain _|⟨u,r⟩:=t1
  ·exact absurd hs (by decide)
  ·have hne:u.text≠⟨#[]⟩:=by
    rw[show u.text=⟨#[47]⟩ from hs]
    decide
   have hu:u.fine:=hE.2.1 u (by simp)
   obtain _|⟨v,r⟩:=r
   ·exfalso
    have h3':numT 1 ([]:List Tok)=.ok (b1,t3):=h3
    have hb:¬((hd ([]:List Tok)).kind=2∧¬(hd ([]:List Tok)).int<1):=by decide
    unfold numT at h3'
    rw[if_neg hb] at h3'
    cases h3'
   ·have hv:v.fine:=hE.2.1 v (by simp)
    by_cases hn:v.kind=2∧¬v.int<1
    ·rw[show(u::v::r).tail=v::r from rfl,numT_ok hn] at h3
     injection h3 with h3
     injection h3 with h9 h10
     subst h9 h10
     exact⟨w1,hv.2.1,by simp;omega⟩
    ·rw[show(u::v::r).tail=v::r from rfl,numT_bad hn] at h3
     cases h3
 ·rw[if_neg hs] at h2
  injection h2 with h4
  injection h4 with h5 h6
  injection h5 with h7 h8
  subst h6 h7 h8
  exact⟨w1,by decide,Nat.le_refl _⟩
theorem set3_cell{W:World}{q:Nat}{v0 v1 v2 v3 v4 v5:Value}(h:∀j,j<6→W.cell? ⟨q,j,none⟩=[v0,v1,v2,v3,v4,v5][j]?)(a:Value):∀j,j<6→(W.setCell ⟨q,3,none⟩ a).cell? ⟨q,j,none⟩=[v0,v1,v2,a,v4,v5][j]?:=by
 have ho:∀k,3≠k→(W.setCell ⟨q,3,none⟩ a).cell? ⟨q,k,none⟩=W.cell? ⟨q,k,none⟩:=fun k hne=>World.cell?_setCell_other _ _ _ _ (by first|(simp;done)|(simp;omega))
 intro j hj
 match j,hj with
 | 0,_=>exact(ho 0 (by omega)).trans (h 0 (by omega))
 | 1,_=>exact(ho 1 (by omega)).trans (h 1 (by omega))
 | 2,_=>exact(ho 2 (by omega)).trans (h 2 (by omega))
 | 3,_=>exact World.cell?_setCell_same _ _ _ (h 3 (by omega))
 | 4,_=>exact(ho 4 (by omega)).trans (h 4 (by omega))
 | 5,_=>exact(ho 5 (by omega)).trans (h 5 (by omega))
theorem set4_cell{W:World}{q:Nat}{v0 v1 v2 v3 v4 v5:Value}(h:∀j,j<6→W.cell? ⟨q,j,none⟩=[v0,v1,v2,v3,v4,v5][j]?)(a:Value):∀j,j<6→(W.setCell ⟨q,4,none⟩ a).cell? ⟨q,j,none⟩=[v0,v1,v2,v3,a,v5][j]?:=by
 have ho:∀k,4≠k→(W.setCell ⟨q,4,none⟩ a).cell? ⟨q,k,none⟩=W.cell? ⟨q,k,none⟩:=fun k hne=>World.cell?_setCell_other _ _ _ _ (by first|(simp;done)|(simp;omega))
 intro j hj
 match j,hj with
 | 0,_=>exact(ho 0 (by omega)).trans (h 0 (by omega))
 | 1,_=>exact(ho 1 (by omega)).trans (h 1 (by omega))
 | 2,_=>exact(ho 2 (by omega)).trans (h 2 (by omega))
 | 3,_=>exact(ho 3 (by omega)).trans (h 3 (by omega))
 | 4,_=>exact World.cell?_setCell_same _ _ _ (h 4 (by omega))
 | 5,_=>exact(ho 5 (by omega)).trans (h 5 (by omega))
set_option maxRecDepth 100000 in
set_option maxHeartbeats 6400000 in
theorem post_rd{W0:World}{R:Nat}(n:Nat)(hpart:DoesE W0 R 174 (pp n 10)):DoesE W0 R 168 (pp (n+1) 9):=by
 intro op ts w hE hrd hns
 obtain⟨res,hres0⟩:=nw (pp (n+1) 9 op ts)
 rw[←hres0] at hns ⊢
 have hres:res=(pp n 10 op ts).then fun a t1=>postL n a t1:=hres0
 clear hres0
 have HM:Hid (∀(ts:List Tok)(b:World),Ends ts→RdAt W0 R ts op b→(∀k,pp n 10 op ts≠.error (k,0))→Calls Tryz.prog 174 #[rp R] b (Post W0 R op b (pp n 10 op ts) (IsEx b.heap.size))):=fun ts b h1 h2 h3=>hpart op ts b h1 h2 h3
 have HNS:Hid (∀k,pp n 10 op ts≠.error (k,0)):=fun k h=>hns k (by rw[hres,h];rfl)
 have HE:Hid _:=hE
 have HRes:Hid _:=hres
 have HNs:Hid _:=hns
 obtain⟨w0,hw0⟩:∃w0:World,w0=w.alloc (.cells #[.int .u8 0,.int .i64 0,.string ⟨#[]⟩,.int .i64 0,.int .i64 0,.slice none 0 0] 27):=⟨_,rfl⟩
 have hb0:Below w.heap.size w w0:=by rw[hw0];exact bal _
 have hs0:w0.heap.size=w.heap.size+1:=by rw[hw0];simp
 have C1:=HM.out ts w0 hE (hrd.below hb0) HNS.out
 have HW0:=hid hw0.symm
 have HB0:Hid _:=hb0
 have HS0:Hid _:=hs0
 have HZ:Hid (∀j,w0.cell? ⟨w.heap.size,j,none⟩=(#[.int .u8 0,.int .i64 0,.string ⟨#[]⟩,.int .i64 0,.int .i64 0,.slice none 0 0]:Array Value)[j]?∧w0.frozen? ⟨w.heap.size,j,none⟩=false):=fun j=>by rw[hw0];exact⟨World.cell?_alloc_at _ _ _ _ rfl,World.frozen?_alloc_at _ _ _ _ rfl⟩
 have HRd:Hid (W0.heap.size≤w.heap.size∧R<w.heap.size):=⟨hrd.keeps.size,hrd.lt⟩
 clear hpart hE hrd hres hns hw0 hb0 hs0
 generalize pp n 10 op ts=p1 at C1 HRes
 simp only[rp] at C1 ⊢
 go_enter Tryz.func168,Tryz.ntmps168
 go_wp2_with fail
 rw[HW0.out]
 refine C1.mono ?_
 rintro x w1 ⟨hk,hp⟩
 have HK1:=hid hk
 clear C1 hk
 cases p1 with
 | error er =>
  obtain⟨kk,ee⟩:=er
  obtain⟨rfl,t2,hr2⟩:=hp
  have HR2:Hid _:=hr2
  have HRes2:Hid (res=.error (kk,ee)):=HRes.out
  rw[HRes2.out]
  clear hr2 HRes HNs
  go_wp2_with fail
  exact⟨rfl,(KeepsB.ofBelow HB0.out).trans HK1.out,rfl,t2,HR2.out⟩
 | ok pr =>
  obtain⟨a1,t1⟩:=pr
  obtain⟨⟨v,rfl,xa,hbare,rfl,hlies,hgood⟩,hr1,hE1⟩:=hp
  have HRes2:Hid (res=postL n a1 t1):=HRes.out
  obtain⟨wL,hwL⟩:=nw (w1.alloc (.cells xa.cells.toArray 27))
  have hbL:Below w1.heap.size w1 wL:=by rw[hwL];exact bal _
  obtain⟨B,hB⟩:=nw (w1.heap.size)
  have HBs:=hid hB
  have HBR:Hid (w.heap.size<B∧B≠R∧W0.heap.size≤B∧w.heap.size≠R):=by
   have h1:=HRd.out
   have h2:=HK1.out.size
   have h3:=HS0.out
   exact⟨by omega,by omega,by omega,by omega⟩
  have HI0:Hid (RdAt W0 R t1 op wL∧Ends t1∧Lies (fun k=>w.heap.size<k∧k≠B) wL xa∧xa.good∧postL n xa.bare t1=res∧KeepsB R w wL∧B<wL.heap.size):=by
   refine⟨hr1.below hbL,hE1,(hlies.mono fun k h1 h2=>⟨by have:=HS0.out;omega,by omega⟩).keep (KeepsQ.ofBelow hbL),hgood,?_,(KeepsB.ofBelow HB0.out).trans (HK1.out.trans (KeepsB.ofBelow hbL)),by rw[hwL,hB];simp⟩
   rw[hbare];exact HRes2.out.symm
  have hcL:∀j,j<6→wL.cell? ⟨B,j,none⟩=xa.cells[j]?:=fun j _=>by rw[hwL];exact(World.cell?_alloc_at _ _ _ _ hB).trans (by simp)
  have hfL:∀j,wL.frozen? ⟨B,j,none⟩=false:=fun j=>by rw[hwL];exact World.frozen?_alloc_at _ _ _ _ hB
  have hzL:∀j,wL.cell? ⟨w.heap.size,j,none⟩=(#[.int .u8 0,.int .i64 0,.string ⟨#[]⟩,.int .i64 0,.int .i64 0,.slice none 0 0]:Array Value)[j]?∧wL.frozen? ⟨w.heap.size,j,none⟩=false:=fun j=>by
   have h1:=(HK1.out.trans (KeepsB.ofBelow hbL)).cell (b:=w.heap.size) (i:=j) (by have:=HS0.out;omega) HBR.out.2.2.2
   exact⟨h1.1.trans (HZ.out j).1,h1.2.trans (HZ.out j).2⟩
  have HC0:Hid _:=hcL
  have HF0:Hid _:=hfL
  have HZ0:Hid _:=hzL
  obtain⟨ka,pa,na,ia,da,aa,ca,la⟩:=xa
  have HWL:Hid (w1.alloc (.cells #[.int .u8 ka,.int .i64 pa,.string na,.int .i64 ia,.int .i64 da,.slice aa la.length ca] 27)=wL):=hwL.symm
  clear hbare hlies hgood hr1 hE1 HRes HNS hwL hbL hcL hfL hzL
  simp only[Ex.val,Ex.cells]
  go_wp2_with fail
  rw[HWL.out]
  try rw[←hB]
  clear hB
  go_loopw [] (fun wr=>∃(x:Ex)(ts':List Tok)(n':Nat),Hid (RdAt W0 R ts' op wr∧Ends ts'∧Lies (fun k=>w.heap.size<k∧k≠B) wr x∧x.good∧postL n' x.bare ts'=res∧KeepsB R w wr∧B<wr.heap.size)∧Hid (∀j,j<6→wr.cell? ⟨B,j,none⟩=x.cells[j]?)∧Hid (∀j,wr.frozen? ⟨B,j,none⟩=false)∧Hid (∀j,wr.cell? ⟨w.heap.size,j,none⟩=(#[.int .u8 0,.int .i64 0,.string ⟨#[]⟩,.int .i64 0,.int .i64 0,.slice none 0 0]:Array Value)[j]?∧wr.frozen? ⟨w.heap.size,j,none⟩=false)) (fun wr=>restOf R wr)
  case atStart=>exact⟨_,t1,n,HI0,HC0,HF0,HZ0⟩
  case round =>
   obtain⟨x,ts',n',HI,HC,HF,HZw⟩:=hrel
   obtain⟨hr,hE,hL,hG,hch,hkw,hBlt⟩:=HI.out
   obtain⟨t,r,rfl⟩:=hE.ne
   have CB:=between_rd 6 hr hE.fine
   rcases n' with _|n'
   ·exact absurd hch.symm (HNs.out 0)
   have HR:=hid hr
   have HEn:=hid hE
   have HL:=hid hL
   have HG:Hid x.good:=hG
   have HKw:=hid hkw
   have HBl:=hid hBlt
   cases hs:sgn 6 (t::r) with
   | none =>
    have hres3:res=.ok (x.bare,t::r):=by rw[←hch,postL,hs]
    have HRes3:Hid _:=hres3
    rw[hres3]
    rw[hs] at CB
    clear hr hE hL hG hch hkw hBlt HI hres3 hs
    simp only[Option.isSome_none,rp] at CB
    go_wp2_with fail
    refine CB.mono ?_
    rintro r2 w2 ⟨rfl,hb2⟩
    have HB2:=hid hb2
    clear CB hb2
    have hc:∀j,j<6→w2.cell? ⟨B,j,none⟩=x.cells[j]?:=fun j hj=>(HB2.out.cell (p:=⟨B,j,none⟩) HBl.out).trans (HC.out j hj)
    obtain⟨kx,px,nx,ix,dx,ax,cx,lx⟩:=x
    have c0:w2.cell? ⟨B,0,none⟩=some (.int .u8 kx):=hc 0 (by omega)
    have c1:w2.cell? ⟨B,1,none⟩=some (.int .i64 px):=hc 1 (by omega)
    have c2:w2.cell? ⟨B,2,none⟩=some (.string nx):=hc 2 (by omega)
    have c3:w2.cell? ⟨B,3,none⟩=some (.int .i64 ix):=hc 3 (by omega)
    have c4:w2.cell? ⟨B,4,none⟩=some (.int .i64 dx):=hc 4 (by omega)
    have c5:w2.cell? ⟨B,5,none⟩=some (.slice ax lx.length cx):=hc 5 (by omega)
    have hwl:w.heap.size<wr.heap.size:=by have h1:=HBR.out.1;have h2:=HBl.out;omega
    have hz:∀j,w2.cell? ⟨w.heap.size,j,none⟩=(#[.int .u8 0,.int .i64 0,.string ⟨#[]⟩,.int .i64 0,.int .i64 0,.slice none 0 0]:Array Value)[j]?∧w2.frozen? ⟨w.heap.size,j,none⟩=false:=fun j=>⟨(HB2.out.cell (p:=⟨w.heap.size,j,none⟩) hwl).trans (HZw.out j).1,(HB2.out.frozen (p:=⟨w.heap.size,j,none⟩) hwl).trans (HZw.out j).2⟩
    have z0:w2.cell? ⟨w.heap.size,0,none⟩=some (.int .u8 0):=(hz 0).1
    have z1:w2.cell? ⟨w.heap.size,1,none⟩=some (.int .i64 0):=(hz 1).1
    have z2:w2.cell? ⟨w.heap.size,2,none⟩=some (.string ⟨#[]⟩):=(hz 2).1
    have z3:w2.cell? ⟨w.heap.size,3,none⟩=some (.int .i64 0):=(hz 3).1
    have z4:w2.cell? ⟨w.heap.size,4,none⟩=some (.int .i64 0):=(hz 4).1
    have z5:w2.cell? ⟨w.heap.size,5,none⟩=some (.slice none 0 0):=(hz 5).1
    have g0:=(hz 0).2
    have g1:=(hz 1).2
    have g2:=(hz 2).2
    have g3:=(hz 3).2
    have g4:=(hz 4).2
    have g5:=(hz 5).2
    have hlt2:=Nat.lt_of_lt_of_le hwl HB2.out.size
    have hltB:=Nat.lt_of_lt_of_le HBl.out HB2.out.size
    obtain⟨W9,hW9⟩:=nw (set6 w2 w.heap.size (.int .u8 kx) (.int .i64 px) (.string nx) (.int .i64 ix) (.int .i64 dx) (.slice ax lx.length cx))
    have hy:∀j,j<6→W9.cell? ⟨w.heap.size,j,none⟩=[.int .u8 kx,.int .i64 px,.string nx,.int .i64 ix,.int .i64 dx,.slice ax lx.length cx][j]?:=by rw[hW9];exact set6_cell (l:=exZero) rfl (fun j hj=>((hz j).1).trans (by simp[exZero])) _ _ _ _ _ _
    have HP:Hid (Post W0 R op w (.ok (.bare ⟨kx,px,nx,ix,dx,ax,cx,lx⟩,t::r)) (IsEx w.heap.size) (.returned (.agg #[.int .u8 kx,.int .i64 px,.string nx,.int .i64 ix,.int .i64 dx,.slice ax lx.length cx])) W9):=by
     rw[Hid,hW9]
     refine⟨set6_keepsB (HKw.out.trans (KeepsB.ofBelow HB2.out)) (Nat.le_refl _) _ _ _ _ _ _,⟨_,rfl,_,rfl,rfl,?_,HG.out⟩,set6_rd (HR.out.below HB2.out) HRd.out.1 _ _ _ _ _ _,HEn.out⟩
     exact((HL.out.keep (KeepsQ.ofBelow HB2.out)).keep (set6_keepsQ (fun h=>Nat.lt_irrefl _ h.1) _ _ _ _ _ _)).mono fun k _ h=>Nat.le_of_lt h.1
    have HW9:Hid ((((((w2.setCell ⟨w.heap.size,0,none⟩ (.int .u8 kx)).setCell ⟨w.heap.size,1,none⟩ (.int .i64 px)).setCell ⟨w.heap.size,2,none⟩ (.string nx)).setCell ⟨w.heap.size,3,none⟩ (.int .i64 ix)).setCell ⟨w.heap.size,4,none⟩ (.int .i64 dx)).setCell ⟨w.heap.size,5,none⟩ (.slice ax lx.length cx)=W9):=hW9.symm
    have HY:Hid _:=hy
    have HBB:Hid (B≠w.heap.size):=by have:=HBR.out.1;exact(Nat.ne_of_lt this).symm
    have hne:=HBB.out
    clear hz hy hc hW9 HC HZw
    go_wp2_with fail
    rw[HW9.out]
    clear z0 z1 z2 z3 z4 z5
    have z0:W9.cell? ⟨w.heap.size,0,none⟩=some (.int .u8 kx):=HY.out 0 (by omega)
    have z1:W9.cell? ⟨w.heap.size,1,none⟩=some (.int .i64 px):=HY.out 1 (by omega)
    have z2:W9.cell? ⟨w.heap.size,2,none⟩=some (.string nx):=HY.out 2 (by omega)
    have z3:W9.cell? ⟨w.heap.size,3,none⟩=some (.int .i64 ix):=HY.out 3 (by omega)
    have z4:W9.cell? ⟨w.heap.size,4,none⟩=some (.int .i64 dx):=HY.out 4 (by omega)
    have z5:W9.cell? ⟨w.heap.size,5,none⟩=some (.slice ax lx.length cx):=HY.out 5 (by omega)
    refine bodyPost_ret (by simp[results,Tryz.results168,go_sem, *];try rfl) rfl ?_
    exact HP.out
   | some k =>
    have hne:=sgn_text hs
    have HKwf:=hid (sgn_wf hs)
    obtain⟨hE2,t',r',rfl⟩:=hE.more (Or.inr hne)
    have HE2:=hid hE2
    have HCh:Hid ((if k=26 then (lateT (t'::r')).then fun x2 ts1=>postL n' (mk1 k x.pl x.bare x2.1 x2.2) ts1 else (numT 1 (t'::r')).then fun a ts1=>postL n' (mk1 k x.pl x.bare a 0) ts1)=res):=by rw[Hid,←hch,postL,hs];cases x;rfl
    have HT:Hid (∀w2,Below wr.heap.size wr w2→Calls Tryz.prog 91 #[rp R] w2 fun x w'=>x=.returned (tkVal t)∧RdAt W0 R (t'::r') op w'∧KeepsB R w2 w'):=fun w2 hb=>take_rd (HR.out.below hb)
    rw[hs] at CB
    simp only[Option.isSome_some,Option.getD_some,rp,tkVal,tkCells] at CB HT
    clear hr hE hL hG hch hkw hBlt HI hs hne hE2
    go_wp2_with fail
    refine CB.mono ?_
    rintro r2 w2 ⟨rfl,hb2⟩
    have HB2:=hid hb2
    have CT:=HT.out w2 hb2
    clear CB hb2
    go_wp2_with fail
    refine CT.mono ?_
    rintro r3 w3 ⟨rfl,hr3,hk3⟩
    have HR3:Hid _:=hr3
    have HK3:=hid ((KeepsB.ofBelow HB2.out).trans hk3)
    clear CT hr3 hk3
    have hlt3:=Nat.lt_of_lt_of_le HBl.out HK3.out.size
    have hB3:∀j,w3.cell? ⟨B,j,none⟩=wr.cell? ⟨B,j,none⟩∧w3.frozen? ⟨B,j,none⟩=wr.frozen? ⟨B,j,none⟩:=fun j=>HK3.out.cell HBl.out HBR.out.2.1
    have hc:∀j,j<6→w3.cell? ⟨B,j,none⟩=x.cells[j]?:=fun j hj=>(hB3 j).1.trans (HC.out j hj)
    have hf:∀j,w3.frozen? ⟨B,j,none⟩=false:=fun j=>(hB3 j).2.trans (HF.out j)
    have HL3:Hid (Lies (fun k=>w.heap.size<k∧k≠B) w3 x):=HL.out.keep (KeepsQ.ofB HK3.out fun h=>by have:=HRd.out.2;omega)
    have HMeas:Hid (restOf R wr=r'.length+2):=HR.out.rest
    obtain⟨kx,px,nx,ix,dx,ax,cx,lx⟩:=x
    have c0:w3.cell? ⟨B,0,none⟩=some (.int .u8 kx):=hc 0 (by omega)
    have c1:w3.cell? ⟨B,1,none⟩=some (.int .i64 px):=hc 1 (by omega)
    have c2:w3.cell? ⟨B,2,none⟩=some (.string nx):=hc 2 (by omega)
    have c3:w3.cell? ⟨B,3,none⟩=some (.int .i64 ix):=hc 3 (by omega)
    have c4:w3.cell? ⟨B,4,none⟩=some (.int .i64 dx):=hc 4 (by omega)
    have c5:w3.cell? ⟨B,5,none⟩=some (.slice ax lx.length cx):=hc 5 (by omega)
    have f0:=hf 0
    have f1:=hf 1
    have f2:=hf 2
    have f3:=hf 3
    have f4:=hf 4
    have f5:=hf 5
    have HC3:Hid _:=hc
    have HF3:Hid _:=hf
    clear hc hf hB3
    have hwl:w.heap.size<wr.heap.size:=by have h1:=HBR.out.1;have h2:=HBl.out;omega
    obtain⟨W4,hW4⟩:∃W4:World,W4=(set6 w3 B (.int .u8 k) (.int .i64 px) (.string ⟨#[]⟩) (.int .i64 0) (.int .i64 0) (.slice (some ⟨w3.heap.size,0,none⟩) 1 1)).alloc (.cells #[.int .u8 kx,.int .i64 px,.string nx,.int .i64 ix,.int .i64 dx,.slice ax lx.length cx] 27):=⟨_,rfl⟩
    have hs6:=set6_size w3 B (.int .u8 k) (.int .i64 px) (.string ⟨#[]⟩) (.int .i64 0) (.int .i64 0) (.slice (some ⟨w3.heap.size,0,none⟩) 1 1)
    have hb4:Below w3.heap.size (set6 w3 B (.int .u8 k) (.int .i64 px) (.string ⟨#[]⟩) (.int .i64 0) (.int .i64 0) (.slice (some ⟨w3.heap.size,0,none⟩) 1 1)) W4:=by rw[hW4];exact(Below.refl _ _).alloc (Nat.le_of_eq hs6.symm) _
    have hb4':Below (set6 w3 B (.int .u8 k) (.int .i64 px) (.string ⟨#[]⟩) (.int .i64 0) (.int .i64 0) (.slice (some ⟨w3.heap.size,0,none⟩) 1 1)).heap.size (set6 w3 B (.int .u8 k) (.int .i64 px) (.string ⟨#[]⟩) (.int .i64 0) (.int .i64 0) (.slice (some ⟨w3.heap.size,0,none⟩) 1 1)) W4:=by rw[hW4];exact bal _
    have HS4:Hid (W4.heap.size=w3.heap.size+1):=by rw[Hid,hW4];simp[hs6]
    have HR4:Hid (RdAt W0 R (t'::r') op W4):=(set6_rd HR3.out HBR.out.2.2.1 _ _ _ _ _ _).below hb4'
    have HK4:Hid (KeepsB R w W4):=(set6_keepsB (HKw.out.trans HK3.out) (Nat.le_of_lt HBR.out.1) _ _ _ _ _ _).trans (KeepsB.ofBelow hb4')
    have HQ4:Hid (KeepsQ (fun k=>k≠R∧k≠B) wr W4):=((KeepsQ.ofB HK3.out fun h=>h.1 rfl).trans (set6_keepsQ (fun h=>h.2 rfl) _ _ _ _ _ _)).trans (KeepsQ.ofBelow hb4')
    have HX4:Hid (Lies (fun k=>w.heap.size<k∧k≠B) W4 ⟨kx,px,nx,ix,dx,ax,cx,lx⟩):=(HL3.out.keep (set6_keepsQ (fun h=>h.2 rfl) _ _ _ _ _ _)).keep (KeepsQ.ofBelow hb4')
    have HN4:Hid (∀j,j<6→W4.cell? ⟨w3.heap.size,j,none⟩=(Ex.mk kx px nx ix dx ax cx lx).cells[j]?):=fun j _=>by rw[hW4];exact(World.cell?_alloc_at _ _ _ _ hs6.symm).trans (by simp[Ex.cells])
    have hlt6:=Nat.lt_of_lt_of_eq hlt3 hs6.symm
    have HD4:Hid ((∀j,j<6→W4.cell? ⟨B,j,none⟩=[.int .u8 k,.int .i64 px,.string ⟨#[]⟩,.int .i64 0,.int .i64 0,.slice (some ⟨w3.heap.size,0,none⟩) 1 1][j]?)∧∀j,W4.frozen? ⟨B,j,none⟩=false):=⟨fun j hj=>((KeepsB.ofBelow hb4').cell hlt6 HBR.out.2.1).1.trans (set6_cell (l:=[.int .u8 kx,.int .i64 px,.string nx,.int .i64 ix,.int .i64 dx,.slice ax lx.length cx]) rfl HC3.out _ _ _ _ _ _ j hj),fun j=>(((KeepsB.ofBelow hb4').cell hlt6 HBR.out.2.1).2.trans (set6_frozen w3 B _ _ _ _ _ _ _)).trans (HF3.out j)⟩
    have HW4:Hid ((((((((w3.setCell ⟨B,0,none⟩ (.int .u8 k)).setCell ⟨B,1,none⟩ (.int .i64 px)).setCell ⟨B,2,none⟩ (.string ⟨#[]⟩)).setCell ⟨B,3,none⟩ (.int .i64 0)).setCell ⟨B,4,none⟩ (.int .i64 0)).setCell ⟨B,5,none⟩ (.slice (some ⟨w3.heap.size,0,none⟩) 1 1)).alloc (.cells #[.int .u8 kx,.int .i64 px,.string nx,.int .i64 ix,.int .i64 dx,.slice ax lx.length cx] 27))=W4):=hW4.symm
    have HWl:=hid hwl
    clear hwl hs6 hb4 hb4' hlt6 hW4
    by_cases h26:k=26
    ·subst h26
     have C5:=delay_rd HR4.out HE2.out
     have HC5:Hid ((lateT (t'::r')).then (fun x2 ts1=>postL n' (mk1 26 px (Ex.bare ⟨kx,px,nx,ix,dx,ax,cx,lx⟩) x2.1 x2.2) ts1)=res):=(if_pos rfl).symm.trans HCh.out
     simp only[rp] at C5
     cases hpp:lateT (t'::r') with
     | error er =>
      obtain⟨kk,ee⟩:=er
      rw[hpp] at C5 HC5
      have HRes3:Hid (res=.error (kk,ee)):=HC5.out.symm
      clear HC5 HCh hpp
      go_wp2_with fail
      rw[HW4.out]
      refine C5.mono ?_
      rintro r4 w5 ⟨hk5,rfl,t5,hr5⟩
      have HK5:Hid _:=hk5
      have HR5:Hid _:=hr5
      clear C5 hk5 hr5
      go_wp2_with fail
      rw[HRes3.out]
      exact⟨rfl,HK4.out.trans HK5.out,rfl,t5,HR5.out⟩
     | ok pr =>
      obtain⟨⟨a,b⟩,t5⟩:=pr
      have HLt:=hid (lateT_wf HE2.out hpp)
      rw[hpp] at C5 HC5
      have HC6:Hid (postL n' (mk1 26 px (Ex.bare ⟨kx,px,nx,ix,dx,ax,cx,lx⟩) a b) t5=res):=HC5.out
      clear HC5 HCh hpp
      go_wp2_with fail
      rw[HW4.out]
      refine C5.mono ?_
      rintro r4 w5 ⟨hk5,⟨v,rfl,hv⟩,hr5,hE5⟩
      have hv:v=.tuple #[.int .i64 a,.int .i64 b]:=hv
      subst hv
      have hlt4:B<W4.heap.size:=by rw[HS4.out];omega
      have HD5:Hid ((∀j,j<6→w5.cell? ⟨B,j,none⟩=[.int .u8 26,.int .i64 px,.string ⟨#[]⟩,.int .i64 0,.int .i64 0,.slice (some ⟨w3.heap.size,0,none⟩) 1 1][j]?)∧∀j,w5.frozen? ⟨B,j,none⟩=false):=⟨fun j hj=>(hk5.cell hlt4 HBR.out.2.1).1.trans (HD4.out.1 j hj),fun j=>(hk5.cell hlt4 HBR.out.2.1).2.trans (HD4.out.2 j)⟩
      have d3:w5.cell? ⟨B,3,none⟩=some (.int .i64 0):=HD5.out.1 3 (by omega)
      have d4:w5.cell? ⟨B,4,none⟩=some (.int .i64 0):=HD5.out.1 4 (by omega)
      have e3:=HD5.out.2 3
      have e4:=HD5.out.2 4
      have hlt5:=Nat.lt_of_lt_of_le hlt4 hk5.size
      have HK5:=hid hk5
      have HR5:Hid _:=hr5
      have HE5:=hid hE5
      clear C5 hk5 hr5 hE5 hlt4 c0 c1 c2 c3 c4 c5 f0 f1 f2 f3 f4 f5
      go_wp2_with fail
      have HRW:Hid (RdAt W0 R t5 op ((w5.setCell ⟨B,3,none⟩ (.int .i64 a)).setCell ⟨B,4,none⟩ (.int .i64 b))):=(HR5.out.other HBR.out.2.2.1).other HBR.out.2.2.1
      have HQW:Hid (∀Q:Nat→Prop,¬Q B→KeepsQ Q w5 ((w5.setCell ⟨B,3,none⟩ (.int .i64 a)).setCell ⟨B,4,none⟩ (.int .i64 b))):=fun Q hb=>(KeepsQ.set hb).trans (KeepsQ.set hb)
      go_roundw
      case rel =>
       have hgx:=HG.out
       simp only[Ex.good] at hgx
       have hQ5:KeepsQ (fun k=>w.heap.size<k∧k≠B) W4 w5:=KeepsQ.ofB HK5.out fun h=>by have:=HRd.out.2;omega
       have hQz:=((HQ4.out.trans (KeepsQ.ofB HK5.out fun h=>h.1 rfl)).trans (HQW.out _ fun h=>h.2 rfl)).2 w.heap.size ⟨HBR.out.2.2.2,Nat.ne_of_lt HBR.out.1⟩ HWl.out
       refine⟨⟨26,px,⟨#[]⟩,a,b,some ⟨w3.heap.size,0,none⟩,1,[⟨kx,px,nx,ix,dx,ax,cx,lx⟩]⟩,t5,n',⟨HRW.out,HE5.out,?_,?_,?_,?_,?_⟩,fun j hj=>?_,fun j=>?_,fun j=>⟨(World.cell?_of_block hQz).trans (HZw.out j).1,(World.frozen?_of_block hQz).trans (HZw.out j).2⟩⟩
       ·exact((lies_one HN4.out ⟨by have:=HBR.out.1;omega,by omega⟩ (by rw[HS4.out];omega) HX4.out).keep hQ5).keep (HQW.out _ fun h=>h.2 rfl)
       ·exact⟨⟨HKwf.out,hgx.1.2.1,by decide +kernel,HLt.out.1,HLt.out.2.1,Nat.le_refl _,by decide +kernel⟩,HG.out,trivial⟩
       ·rw[←HC6.out];rfl
       ·exact((HK4.out.trans HK5.out).new (Nat.le_of_lt HBR.out.1)).new (Nat.le_of_lt HBR.out.1)
       ·simpa using hlt5
       ·exact set4_cell (set3_cell HD5.out.1 _) _ j hj
       ·simpa using HD5.out.2 j
      case measure =>
       have h1:=HRW.out.rest
       have h2:=HMeas.out
       have h3:=HLt.out.2.2
       rw[h2]
       exact Nat.lt_of_le_of_lt (Nat.le_of_eq h1) (by omega)
    ·have h26b:=beq_false_of_ne h26
     have C5:=num_rd 1 HR4.out HE2.out
     have HC5:=hid ((if_neg h26).symm.trans HCh.out)
     simp only[rp] at C5
     cases hpp:numT 1 (t'::r') with
     | error er =>
      obtain⟨kk,ee⟩:=er
      rw[hpp] at C5 HC5
      have HRes3:Hid (res=.error (kk,ee)):=HC5.out.symm
      clear HC5 HCh hpp
      go_wp2_with fail
      rw[HW4.out]
      refine C5.mono ?_
      rintro r4 w5 ⟨hk5,rfl,t5,hr5⟩
      have HK5:Hid _:=hk5
      have HR5:Hid _:=hr5
      clear C5 hk5 hr5
      go_wp2_with fail
      rw[HRes3.out]
      exact⟨rfl,HK4.out.trans HK5.out,rfl,t5,HR5.out⟩
     | ok pr =>
      obtain⟨a,t5⟩:=pr
      have HLt:Hid ((Lit.int .i64 a).wf=true∧(Lit.int .i64 0).wf=true∧t5.length≤r'.length):=⟨(numT_wf HE2.out hpp).1,by decide,(numT_wf HE2.out hpp).2⟩
      rw[hpp] at C5 HC5
      have HC6:Hid (postL n' (mk1 k px (Ex.bare ⟨kx,px,nx,ix,dx,ax,cx,lx⟩) a 0) t5=res):=HC5.out
      clear HC5 HCh hpp
      go_wp2_with fail
      rw[HW4.out]
      refine C5.mono ?_
      rintro r4 w5 ⟨hk5,⟨v,rfl,hv⟩,hr5,hE5⟩
      subst hv
      have hlt4:B<W4.heap.size:=by rw[HS4.out];omega
      have HD5:Hid ((∀j,j<6→w5.cell? ⟨B,j,none⟩=[.int .u8 k,.int .i64 px,.string ⟨#[]⟩,.int .i64 0,.int .i64 0,.slice (some ⟨w3.heap.size,0,none⟩) 1 1][j]?)∧∀j,w5.frozen? ⟨B,j,none⟩=false):=⟨fun j hj=>(hk5.cell hlt4 HBR.out.2.1).1.trans (HD4.out.1 j hj),fun j=>(hk5.cell hlt4 HBR.out.2.1).2.trans (HD4.out.2 j)⟩
      have d3:w5.cell? ⟨B,3,none⟩=some (.int .i64 0):=HD5.out.1 3 (by omega)
      have d4:w5.cell? ⟨B,4,none⟩=some (.int .i64 0):=HD5.out.1 4 (by omega)
      have e3:=HD5.out.2 3
      have e4:=HD5.out.2 4
      have hlt5:=Nat.lt_of_lt_of_le hlt4 hk5.size
      have HK5:=hid hk5
      have HR5:Hid _:=hr5
      have HE5:=hid hE5
      clear C5 hk5 hr5 hE5 hlt4 c0 c1 c2 c3 c4 c5 f0 f1 f2 f3 f4 f5
      go_wp2_with fail
      have HRW:Hid (RdAt W0 R t5 op (w5.setCell ⟨B,3,none⟩ (.int .i64 a))):=HR5.out.other HBR.out.2.2.1
      have HQW:Hid (∀Q:Nat→Prop,¬Q B→KeepsQ Q w5 (w5.setCell ⟨B,3,none⟩ (.int .i64 a))):=fun Q hb=>KeepsQ.set hb
      go_roundw
      case rel =>
       have hgx:=HG.out
       simp only[Ex.good] at hgx
       have hQ5:KeepsQ (fun k=>w.heap.size<k∧k≠B) W4 w5:=KeepsQ.ofB HK5.out fun h=>by have:=HRd.out.2;omega
       have hQz:=((HQ4.out.trans (KeepsQ.ofB HK5.out fun h=>h.1 rfl)).trans (HQW.out _ fun h=>h.2 rfl)).2 w.heap.size ⟨HBR.out.2.2.2,Nat.ne_of_lt HBR.out.1⟩ HWl.out
       refine⟨⟨k,px,⟨#[]⟩,a,0,some ⟨w3.heap.size,0,none⟩,1,[⟨kx,px,nx,ix,dx,ax,cx,lx⟩]⟩,t5,n',⟨HRW.out,HE5.out,?_,?_,?_,?_,?_⟩,fun j hj=>?_,fun j=>?_,fun j=>⟨(World.cell?_of_block hQz).trans (HZw.out j).1,(World.frozen?_of_block hQz).trans (HZw.out j).2⟩⟩
       ·exact((lies_one HN4.out ⟨by have:=HBR.out.1;omega,by omega⟩ (by rw[HS4.out];omega) HX4.out).keep hQ5).keep (HQW.out _ fun h=>h.2 rfl)
       ·exact⟨⟨HKwf.out,hgx.1.2.1,by decide +kernel,HLt.out.1,HLt.out.2.1,Nat.le_refl _,by decide +kernel⟩,HG.out,trivial⟩
       ·rw[←HC6.out];rfl
       ·exact(HK4.out.trans HK5.out).new (Nat.le_of_lt HBR.out.1)
       ·simpa using hlt5
       ·exact set3_cell HD5.out.1 _ j hj
       ·simpa using HD5.out.2 j
      case measure =>
       have h1:=HRW.out.rest
       have h2:=HMeas.out
       have h3:=HLt.out.2.2
       rw[h2]
       exact Nat.lt_of_le_of_lt (Nat.le_of_eq h1) (by omega)
end Go.Proofs.YthbgnpkgglbhjaaGreatDoor
namespace Go.Proofs.YthbgnpkgglbhjaaGreatDoor
open Go.RowKit Go.Shelf
open Ex.size Ex.depth Ex.lies Ex.bulk Ex.good Ex.bare
theorem pp_all{W0:World}{R:Nat}:∀n,DoesE W0 R 34 (pp n 0)∧DoesE W0 R 63 (pp n 1)∧DoesE W0 R 100 (pp n 2)∧DoesE W0 R 127 (pp n 3)∧DoesE W0 R 137 (pp n 4)∧DoesE W0 R 148 (pp n 5)∧DoesE W0 R 159 (pp n 6)∧DoesE W0 R 161 (pp n 7)∧DoesE W0 R 163 (pp n 8)∧DoesE W0 R 168 (pp n 9)∧DoesE W0 R 174 (pp n 10)
 | 0=>by
  have h:∀f r,DoesE W0 R f (pp 0 r):=fun f r op ts w _ _ hns=>absurd rfl (hns 0)
  exact⟨h _ _,h _ _,h _ _,h _ _,h _ _,h _ _,h _ _,h _ _,h _ _,h _ _,h _ _⟩
 | n+1=>by
  obtain⟨h0,h1,h2,h3,h4,h5,h6,h7,h8,h9,h10⟩:=pp_all (W0:=W0) (R:=R) n
  have hl:∀r,r≤10→∀op ts e t2,pp n r op ts=.ok (e,t2)→t2.length≤ts.length:=fun r hr op ts e t2 h=>pp_shr n r hr op ts e t2 h
  exact⟨expr_rd n h0 h1,later_rd n h2 h1,or1_rd n h3 (hl 3 (by decide)),and1_rd n h4 (hl 4 (by decide)),not1_rd n h4 h5,cmp_rd n h6,sum_rd n h7 (hl 7 (by decide)),term_rd n h8 (hl 8 (by decide)),unary_rd n h8 h9,post_rd n h10,atom_rd n h0 (hl 0 (by decide))⟩
theorem expr_all{W0:World}{R:Nat}(op:Nat)(ts:List Tok)(w:World)(hE:Ends ts)(hrd:RdAt W0 R ts op w)(n:Nat)(hn:13*ts.length+13≤n):Calls Tryz.prog 34 #[rp R] w (Post W0 R op w (pp n 0 op ts) (IsEx w.heap.size)):=(pp_all n).1 op ts w hE hrd (pp_nof n 0 (by decide) op ts (by omega))
end Go.Proofs.YthbgnpkgglbhjaaGreatDoor
