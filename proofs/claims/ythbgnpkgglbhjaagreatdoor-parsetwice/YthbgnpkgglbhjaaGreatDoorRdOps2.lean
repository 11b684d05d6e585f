import Derived.Test.YthbgnpkgglbhjaaGreatDoorRdOps
import Derived.Defers
namespace Go.Proofs.YthbgnpkgglbhjaaGreatDoor
open Go.RowKit Go.Shelf
open Ex.size Ex.depth Ex.lies Ex.bulk Ex.good Ex.bare
attribute [local go_sem] tk_f0 tk_f1 tk_f2 tk_f3
set_option maxRecDepth 100000 in
set_option maxHeartbeats 1600000 in
theorem leave_d{W0:World}{R op:Nat}{ts:List Tok}{w:World}(u:FrameMode)(h:RdAt W0 R ts (op+1) w):CallsD Tryz.prog 65 #[rp R] u w fun e u' w'=>u'=u∧e=.returned (.tuple #[])∧RdAt W0 R ts op w'∧KeepsB R w w':=by
 have h1:=h.opn
 have h2:=h.fr1
 have hR:=h.lt
 have HO:Hid (RdAt W0 R ts op (w.setCell ⟨R,1,none⟩ (.int .i64 op))):=h.opened op (by have:=h.le;omega)
 have HK:Hid (KeepsB R w (w.setCell ⟨R,1,none⟩ (.int .i64 op))):=KeepsB.setCell _ _ _ _
 have hw:wrap64 (op:Int)=op:=by have:=h.le;simp only[wrap64];omega
 clear h
 simp only[rp] at HO ⊢
 go_enter_d Tryz.func65,Tryz.ntmps65
 go_wp2_with fail
 try rw[hw]
 go_end0
 exact⟨rfl,HO.out,HK.out⟩
set_option maxRecDepth 100000 in
set_option maxHeartbeats 6400000 in
theorem ahead_rd{W0:World}{R:Nat}(f:Nat)(hent:Enters Tryz.prog f)(part:Nat→List Tok→PR Ex)(hpart:DoesE W0 R f part)(k:Int)(hk:(Lit.int .u8 k).wf=true)(op:Nat)(t t':Tok)(r:List Tok)(w:World)(hE:Ends (t::t'::r))(hE2:Ends (t'::r))(hrd:RdAt W0 R (t::t'::r) op w)(res:PR Ex)(hres:res=openT op (t::t'::r) fun t1=>(part (op+1) t1).then fun a t2=>.ok (mk1 k t.place a 0 0,t2))(hns:∀k,res≠.error (k,0)) :
  Calls Tryz.prog 147 #[rp R,.int .u8 k,.func (.func f) #[rp R] #[]] w (Post W0 R op w res (IsEx w.heap.size)):=by
 obtain⟨w0,hw0⟩:∃w0:World,w0=w.alloc (.cells #[.int .u8 0,.int .i64 0,.string ⟨#[]⟩,.int .i64 0,.int .i64 0,.slice none 0 0] 27):=⟨_,rfl⟩
 have hb0:Below w.heap.size w w0:=by rw[hw0];exact bal _
 have HW0:=hid hw0.symm
 have HB0:Hid _:=hb0
 have HO0:Hid (Own w0 w.heap.size):=by rw[Hid,hw0];exact Own.made w _ rfl
 have hr0:=hrd.below hb0
 have HRd:Hid (W0.heap.size≤w.heap.size∧R<w.heap.size):=⟨hrd.keeps.size,hrd.lt⟩
 clear hw0
 by_cases h200:op=200
 ·subst h200
  have CE:=noenter_rd hr0
  have HRes:Hid (res=.error (t.place,61)):=hres
  have HR0:Hid _:=hr0
  clear hres hns hpart hrd hb0 hr0
  simp only[rp,bad] at CE ⊢
  go_enter_defers Tryz.func147,Tryz.ntmps147
  go_wp2_with fail
  rw[HW0.out]
  refine CE.mono ?_
  rintro x w1 ⟨rfl,hb1⟩
  have HB1:Hid _:=hb1
  clear CE hb1
  go_wp2_with fail
  show Post W0 R 200 w res (IsEx w.heap.size) (.panicked [{ v:=badVal t.place 61,recovered:=false }]) w1
  rw[HRes.out]
  exact⟨(KeepsB.ofBelow HB0.out).trans (KeepsB.ofBelow HB1.out),rfl,_,HR0.out.below HB1.out⟩
 ·have CE:=enter_rd hr0 (by have:=hrd.le;omega)
  have HRes : Hid (res = (part (op + 1) (t' :: r)).then fun a t2 => .ok (mk1 k t.place a 0 0, t2)) := by rw [Hid, hres, openT, if_neg h200]; rfl
  have HN2 : Hid (∀ k, part (op + 1) (t' :: r) ≠ .error (k, 0)) := fun kk h => hns kk (by rw [HRes.out, h]; rfl)
  have HP : Hid (∀ W, RdAt W0 R (t' :: r) (op + 1) W → Calls Tryz.prog f #[.pointer (some ⟨R, 0, none⟩)] W (Post W0 R (op + 1) W (part (op + 1) (t' :: r)) (IsEx W.heap.size))) := fun W h => hpart (op + 1) (t' :: r) W hE2 h HN2.out
  have hent':∀args W,(callFunc f args).run Tryz.prog W=.ok (.enter f args) W:=hent
  have HFine:Hid t.fine:=hE.fine
  clear hres hns hpart hrd hb0 hr0 hent
  simp only[rp,tkVal,tkCells] at CE ⊢
  go_enter_defers Tryz.func147,Tryz.ntmps147
  go_wp2_with fail
  rw[HW0.out]
  refine CE.mono ?_
  rintro x w1 ⟨rfl,hr1,hk1⟩
  have HR1:Hid _:=hr1
  have HK1:=hid hk1
  clear CE hr1 hk1
  go_wp2_with fail
  refine(HP.out w1 HR1.out).mono ?_
  rintro x w2 ⟨hk2,hp⟩
  have HK2:=hid ((KeepsB.ofBelow HB0.out).trans (HK1.out.trans hk2))
  have HK12:=hid (HK1.out.trans hk2)
  have HK2':=hid hk2
  clear hk2
  cases hpp : part (op + 1) (t' :: r) with
  | error er =>
   obtain⟨kk,ee⟩:=er
   rw[hpp] at hp HRes
   obtain⟨rfl,t2,hr2⟩:=hp
   have HRes3:Hid (res=.error (kk,ee)):=HRes.out
   have HR2:Hid _:=hr2
   clear hr2 HRes hpp
   go_wp2_with fail
   refine leaves_cons (f:=65) (args:=#[rp R]) (by simp) (by simp[go_sem,rp]) ?_
   refine(leave_d _ HR2.out).mono ?_
   rintro e u' w3 ⟨rfl,rfl,hr3,hk3⟩
   show Post W0 R op w res (IsEx w.heap.size) (.panicked [{ v:=badVal kk ee,recovered:=false }]) w3
   rw[HRes3.out]
   exact⟨HK2.out.trans hk3,rfl,_,hr3⟩
  | ok pr =>
   obtain⟨e2,t2⟩:=pr
   rw[hpp] at hp HRes
   obtain⟨⟨v,rfl,xa,rfl,rfl,hl,hg⟩,hr2,hE3⟩:=hp
   have HRes3:Hid (res=.ok (mk1 k t.place xa.bare 0 0,t2)):=HRes.out
   have HR2:Hid _:=hr2
   have HE3:=hid hE3
   have HG:Hid xa.good:=hg
   have HL:=hid hl
   have HO2:Hid (Own w2 w.heap.size):=HO0.out.keep HK12.out (show w.heap.size≠R by have:=HRd.out.2;omega)
   have hown:=HO2.out
   have hlt:=hown.2
   have z0:w2.cell? ⟨w.heap.size,0,none⟩=some (.int .u8 0):=(hown.1 0).1
   have z1:w2.cell? ⟨w.heap.size,1,none⟩=some (.int .i64 0):=(hown.1 1).1
   have z2:w2.cell? ⟨w.heap.size,2,none⟩=some (.string ⟨#[]⟩):=(hown.1 2).1
   have z3:w2.cell? ⟨w.heap.size,3,none⟩=some (.int .i64 0):=(hown.1 3).1
   have z4:w2.cell? ⟨w.heap.size,4,none⟩=some (.int .i64 0):=(hown.1 4).1
   have z5:w2.cell? ⟨w.heap.size,5,none⟩=some (.slice none 0 0):=(hown.1 5).1
   have g0:=(hown.1 0).2
   have g1:=(hown.1 1).2
   have g2:=(hown.1 2).2
   have g3:=(hown.1 3).2
   have g4:=(hown.1 4).2
   have g5:=(hown.1 5).2
   obtain⟨ka,pa,na,ia,da,aa,ca,la⟩:=xa
   clear hr2 hE3 hg hl hown HRes hpp
   have hs6:(set6 w2 w.heap.size (.int .u8 k) (.int .i64 t.place) (.string ⟨#[]⟩) (.int .i64 0) (.int .i64 0) (.slice (some ⟨w2.heap.size,0,none⟩) 1 1)).heap.size=w2.heap.size:=set6_size _ _ _ _ _ _ _ _
   obtain⟨W4,hW4⟩:∃W4,W4=(set6 w2 w.heap.size (.int .u8 k) (.int .i64 t.place) (.string ⟨#[]⟩) (.int .i64 0) (.int .i64 0) (.slice (some ⟨w2.heap.size,0,none⟩) 1 1)).alloc (.cells #[.int .u8 ka,.int .i64 pa,.string na,.int .i64 ia,.int .i64 da,.slice aa la.length ca] 27):=⟨_,rfl⟩
   have hb4:Below (set6 w2 w.heap.size (.int .u8 k) (.int .i64 t.place) (.string ⟨#[]⟩) (.int .i64 0) (.int .i64 0) (.slice (some ⟨w2.heap.size,0,none⟩) 1 1)).heap.size (set6 w2 w.heap.size (.int .u8 k) (.int .i64 t.place) (.string ⟨#[]⟩) (.int .i64 0) (.int .i64 0) (.slice (some ⟨w2.heap.size,0,none⟩) 1 1)) W4:=by rw[hW4];exact bal _
   have h4s:W4.heap.size=w2.heap.size+1:=by rw[hW4];simp[hs6]
   have HR4:Hid (RdAt W0 R t2 (op+1) W4):=(set6_rd HR2.out HRd.out.1 _ _ _ _ _ _).below hb4
   have HK4:Hid (KeepsB R w W4):=(set6_keepsB HK2.out (Nat.le_refl _) _ _ _ _ _ _).trans (KeepsB.ofBelow hb4)
   have hw01:w.heap.size+1≤w1.heap.size:=by
    have h1:=HK1.out.size
    have h2:w0.heap.size=w.heap.size+1:=by rw[←HW0.out];simp
    omega
   have hw12:w1.heap.size≤w2.heap.size:=HK2'.out.size
   have HL4:Hid (Lies (fun k=>w.heap.size<k) W4 ⟨k,t.place,⟨#[]⟩,0,0,some ⟨w2.heap.size,0,none⟩,1,[⟨ka,pa,na,ia,da,aa,ca,la⟩]⟩):=by
    refine lies_one (fun j hj=>?_) (show w.heap.size<w2.heap.size by omega) (by omega) ?_
    ·rw[hW4];exact(World.cell?_alloc_at _ _ _ _ hs6.symm).trans (by simp[Ex.cells])
    ·exact((HL.out.mono fun k _ (h:w1.heap.size≤k)=>show w.heap.size<k by omega).keep (set6_keepsQ (fun h=>Nat.lt_irrefl _ h) _ _ _ _ _ _)).keep (KeepsQ.ofBelow hb4)
   have HY:Hid (∀j,j<6→W4.cell? ⟨w.heap.size,j,none⟩=[.int .u8 k,.int .i64 t.place,.string ⟨#[]⟩,.int .i64 0,.int .i64 0,.slice (some ⟨w2.heap.size,0,none⟩) 1 1][j]?):=fun j hj=>(hb4.cell (p:=⟨w.heap.size,j,none⟩) (by rw[hs6];exact hlt)).trans (set6_cell (l:=exZero) rfl (fun j _=>(HO2.out.1 j).1) _ _ _ _ _ _ j hj)
   have HlW:Hid (w.heap.size<W4.heap.size):=by rw[Hid,h4s];omega
   have HW4:Hid (((((((w2.setCell ⟨w.heap.size,0,none⟩ (.int .u8 k)).setCell ⟨w.heap.size,1,none⟩ (.int .i64 t.place)).setCell ⟨w.heap.size,2,none⟩ (.string ⟨#[]⟩)).setCell ⟨w.heap.size,3,none⟩ (.int .i64 0)).setCell ⟨w.heap.size,4,none⟩ (.int .i64 0)).setCell ⟨w.heap.size,5,none⟩ (.slice (some ⟨w2.heap.size,0,none⟩) 1 1)).alloc (.cells #[.int .u8 ka,.int .i64 pa,.string na,.int .i64 ia,.int .i64 da,.slice aa la.length ca] 27)=W4):=hW4.symm
   clear hs6 hb4 h4s hw01 hw12 hW4
   simp only[Ex.val,Ex.cells]
   go_wp2_with fail
   rw[HW4.out]
   clear z0 z1 z2 z3 z4 z5 g0 g1 g2 g3 g4 g5
   refine leaves_cons (f:=65) (args:=#[rp R]) (by simp) (by simp[go_sem,rp]) ?_
   refine(leave_d _ HR4.out).mono ?_
   rintro e u' w5 ⟨rfl,rfl,hr5,hk5⟩
   have hy:∀j,j<6→w5.cell? ⟨w.heap.size,j,none⟩=[.int .u8 k,.int .i64 t.place,.string ⟨#[]⟩,.int .i64 0,.int .i64 0,.slice (some ⟨w2.heap.size,0,none⟩) 1 1][j]?:=fun j hj=>(hk5.cell HlW.out (show w.heap.size≠R by have:=HRd.out.2;omega)).1.trans (HY.out j hj)
   have z0:w5.cell? ⟨w.heap.size,0,none⟩=some (.int .u8 k):=hy 0 (by omega)
   have z1:w5.cell? ⟨w.heap.size,1,none⟩=some (.int .i64 t.place):=hy 1 (by omega)
   have z2:w5.cell? ⟨w.heap.size,2,none⟩=some (.string ⟨#[]⟩):=hy 2 (by omega)
   have z3:w5.cell? ⟨w.heap.size,3,none⟩=some (.int .i64 0):=hy 3 (by omega)
   have z4:w5.cell? ⟨w.heap.size,4,none⟩=some (.int .i64 0):=hy 4 (by omega)
   have z5:w5.cell? ⟨w.heap.size,5,none⟩=some (.slice (some ⟨w2.heap.size,0,none⟩) 1 1):=hy 5 (by omega)
   have HPost:Hid (Post W0 R op w res (IsEx w.heap.size) (.returned (.agg #[.int .u8 k,.int .i64 t.place,.string ⟨#[]⟩,.int .i64 0,.int .i64 0,.slice (some ⟨w2.heap.size,0,none⟩) 1 1])) w5):=by
    rw[Hid,HRes3.out]
    refine⟨HK4.out.trans hk5,⟨_,rfl,⟨k,t.place,⟨#[]⟩,0,0,some ⟨w2.heap.size,0,none⟩,1,[⟨ka,pa,na,ia,da,aa,ca,la⟩]⟩,rfl,rfl,?_,?_⟩,hr5,HE3.out⟩
    ·exact(HL4.out.keep (KeepsQ.ofB hk5 (fun h=>by have:=HRd.out.2;omega))).mono fun k _ h=>Nat.le_of_lt h
    ·exact⟨⟨hk,HFine.out.2.2,by decide +kernel,by decide,by decide,Nat.le_refl _,by decide +kernel⟩,HG.out,trivial⟩
   clear hy hr5 hk5
   refine⟨_,by simp[results,Tryz.results147,go_sem, *];try rfl,HPost.out⟩
theorem RdAt.drew{W0:World}{R op:Nat}{ts:List Tok}{w:World}(h:RdAt W0 R ts op w):RdAt W0 R ts op w.drew:=h.below ⟨rfl,rfl,rfl,Nat.le_refl _,fun _ _=>rfl⟩
set_option maxRecDepth 100000 in
set_option maxHeartbeats 12800000 in
theorem later_rd{W0:World}{R:Nat}(n:Nat)(hp:DoesE W0 R 100 (pp n 2))(hp2:DoesE W0 R 63 (pp n 1)):DoesE W0 R 63 (pp (n+1) 1):=by
 intro op ts w hE hrd hns
 obtain⟨w0,hw0⟩:∃w0:World,w0=w.alloc (.cells #[.int .u8 0,.int .i64 0,.string ⟨#[]⟩,.int .i64 0,.int .i64 0,.slice none 0 0] 27):=⟨_,rfl⟩
 have hb0:Below w.heap.size w w0:=by rw[hw0];exact bal _
 have hs0:w0.heap.size=w.heap.size+1:=by rw[hw0];simp
 have ho0:Own w0 w.heap.size:=by rw[hw0];exact Own.made w _ rfl
 have HRes:Hid (pp (n+1) 1 op ts=(pp n 2 op ts).then fun a t1=>match sgn 0 t1 with
   | none=>.ok (a,t1)
   | some k=>openT op t1 fun t2=>(pp n 1 (op+1) t2).then fun b t3=>.ok (mk2 k a b,t3)):=rfl
 have HNs:Hid _:=hns
 have hns1:∀k,pp n 2 op ts≠.error (k,0):=fun k h=>hns k (by rw[HRes.out,h];rfl)
 have C1:=hp op ts w0 hE (hrd.below hb0) hns1
 have HM:Hid _:=hp2
 have HW0:=hid hw0.symm
 have HB0:Hid _:=hb0
 have HS0:Hid _:=hs0
 have HO0:=hid ho0
 have HRd:Hid (W0.heap.size≤w.heap.size∧R<w.heap.size):=⟨hrd.keeps.size,hrd.lt⟩
 have HLe:=hid (hrd.le)
 clear hp hp2 hE hrd hns hns1 hw0 hb0 hs0 ho0
 generalize pp (n+1) 1 op ts=res at HRes HNs ⊢
 generalize pp n 2 op ts=p1 at C1 HRes
 simp only[rp] at C1 ⊢
 go_enter_defers Tryz.func63,Tryz.ntmps63
 go_wp2_with fail
 rw[HW0.out]
 refine C1.mono ?_
 rintro x w1 ⟨hk,hp⟩
 have HK1:=hid hk
 clear C1 hk
 cases p1 with
 | error er =>
  obtain⟨kk,ee⟩:=er
  obtain⟨rfl,t2,hr2⟩:=hp
  have HR2:Hid _:=hr2
  have HRes2:Hid (res=.error (kk,ee)):=HRes.out
  clear hr2
  go_wp2_with fail
  show Post W0 R op w res (IsEx w.heap.size) (.panicked [{ v:=badVal kk ee,recovered:=false }]) w1
  rw[HRes2.out]
  exact⟨(KeepsB.ofBelow HB0.out).trans HK1.out,rfl,t2,HR2.out⟩
 | ok pr =>
  obtain⟨a1,t1⟩:=pr
  obtain⟨⟨v,rfl,xa,rfl,rfl,hl,hg⟩,hr1,hE1⟩:=hp
  have HRes1:Hid (res=match sgn 0 t1 with
   | none=>.ok (xa.bare,t1)
   | some k=>openT op t1 fun t2=>(pp n 1 (op+1) t2).then fun b t3=>.ok (mk2 k xa.bare b,t3)):=HRes.out
  obtain⟨wL,hwL⟩:=nw (w1.alloc (.cells xa.cells.toArray 27))
  have hbL:Below w1.heap.size w1 wL:=by rw[hwL];exact bal _
  obtain⟨B,hB⟩:=nw (w1.heap.size)
  have HBR:Hid (w.heap.size<B∧B≠R∧W0.heap.size≤B∧w.heap.size≠R):=by
   have h1:=HRd.out
   have h2:=HK1.out.size
   have h3:=HS0.out
   exact⟨by omega,by omega,by omega,by omega⟩
  have HBl:Hid (B<wL.heap.size):=by rw[Hid,hwL,hB];simp
  have HLL:Hid (Lies (fun k=>w.heap.size<k∧k≠B) wL xa):=(hl.mono fun k h1 (h2:w0.heap.size≤k)=>⟨by have:=HS0.out;omega,by omega⟩).keep (KeepsQ.ofBelow hbL)
  have HG:Hid xa.good:=hg
  have HKL:=hid ((KeepsB.ofBelow HB0.out).trans (HK1.out.trans (KeepsB.ofBelow hbL)))
  have HOL:=hid ((HO0.out.keep HK1.out HBR.out.2.2.2).keep (R:=R) (KeepsB.ofBelow hbL) HBR.out.2.2.2)
  have hrL:=hr1.below hbL
  have hcL:∀j,j<6→wL.cell? ⟨B,j,none⟩=xa.cells[j]?:=fun j _=>by rw[hwL];exact(World.cell?_alloc_at _ _ _ _ hB).trans (by simp)
  obtain⟨t,r,rfl⟩:=hE1.ne
  have CB:=between_rd 0 hrL hE1.fine
  have HRL:=hid hrL
  have HE1:=hid hE1
  obtain⟨kx,px,nx,ix,dx,ax,cx,lx⟩:=xa
  have HBk:Hid (∀W,KeepsB R wL W→(∀j,j<6→W.cell? ⟨B,j,none⟩=[.int .u8 kx,.int .i64 px,.string nx,.int .i64 ix,.int .i64 dx,.slice ax lx.length cx][j]?)):=fun W hk j hj=>(hk.cell HBl.out HBR.out.2.1).1.trans (hcL j hj)
  have HWL:Hid (w1.alloc (.cells #[.int .u8 kx,.int .i64 px,.string nx,.int .i64 ix,.int .i64 dx,.slice ax lx.length cx] 27)=wL):=hwL.symm
  clear hl hg hr1 hE1 hwL hbL hrL hcL HRes
  simp only[Ex.val,Ex.cells,rp] at CB ⊢
  cases hs:sgn 0 (t::r) with
  | none =>
   have HRes2:Hid (res=.ok (Ex.bare ⟨kx,px,nx,ix,dx,ax,cx,lx⟩,t::r)):=by rw[Hid,HRes1.out,hs]
   rw[hs] at CB
   simp only[Option.isSome_none] at CB
   clear hs
   go_wp2_with fail
   rw[HWL.out]
   simp only[←hB]
   clear hB
   refine CB.mono ?_
   rintro r2 w2 ⟨rfl,hb2⟩
   have HB2:=hid hb2
   have q1:=HBk.out w2 (KeepsB.ofBelow hb2)
   have c0:w2.cell? ⟨B,0,none⟩=some (.int .u8 kx):=q1 0 (by omega)
   have c1:w2.cell? ⟨B,1,none⟩=some (.int .i64 px):=q1 1 (by omega)
   have c2:w2.cell? ⟨B,2,none⟩=some (.string nx):=q1 2 (by omega)
   have c3:w2.cell? ⟨B,3,none⟩=some (.int .i64 ix):=q1 3 (by omega)
   have c4:w2.cell? ⟨B,4,none⟩=some (.int .i64 dx):=q1 4 (by omega)
   have c5:w2.cell? ⟨B,5,none⟩=some (.slice ax lx.length cx):=q1 5 (by omega)
   have HP:Hid _:=post_ex HRd.out.1 (HKL.out.trans (KeepsB.ofBelow HB2.out)) (HRL.out.below HB2.out) HE1.out ((HLL.out.keep (KeepsQ.ofBelow HB2.out)).mono fun k _ h=>h.1) HG.out
   have hown:=HOL.out.keep (R:=R) (KeepsB.ofBelow HB2.out) HBR.out.2.2.2
   have hneB:B≠w.heap.size:=(Nat.ne_of_lt HBR.out.1).symm
   have hltB:B<w2.heap.size:=Nat.lt_of_lt_of_le HBl.out HB2.out.size
   have HY:Hid _:=exStore_cell ⟨kx,px,nx,ix,dx,ax,cx,lx⟩ fun j=>(hown.1 j).1
   have hlt:=hown.2
   obtain⟨W9,hW9⟩:=nw (exStore w2 w.heap.size ⟨kx,px,nx,ix,dx,ax,cx,lx⟩)
   rw[←hW9] at HP HY
   have HW9:Hid (((((((w2.setCell ⟨w.heap.size,0,none⟩ (.int .u8 kx)).setCell ⟨w.heap.size,1,none⟩ (.int .i64 px)).setCell ⟨w.heap.size,2,none⟩ (.string nx)).setCell ⟨w.heap.size,3,none⟩ (.int .i64 ix)).setCell ⟨w.heap.size,4,none⟩ (.int .i64 dx)).setCell ⟨w.heap.size,5,none⟩ (.slice ax lx.length cx))=W9):=hW9.symm
   have z0:w2.cell? ⟨w.heap.size,0,none⟩=some (.int .u8 0):=(hown.1 0).1
   have z1:w2.cell? ⟨w.heap.size,1,none⟩=some (.int .i64 0):=(hown.1 1).1
   have z2:w2.cell? ⟨w.heap.size,2,none⟩=some (.string ⟨#[]⟩):=(hown.1 2).1
   have z3:w2.cell? ⟨w.heap.size,3,none⟩=some (.int .i64 0):=(hown.1 3).1
   have z4:w2.cell? ⟨w.heap.size,4,none⟩=some (.int .i64 0):=(hown.1 4).1
   have z5:w2.cell? ⟨w.heap.size,5,none⟩=some (.slice none 0 0):=(hown.1 5).1
   have g0:=(hown.1 0).2
   have g1:=(hown.1 1).2
   have g2:=(hown.1 2).2
   have g3:=(hown.1 3).2
   have g4:=(hown.1 4).2
   have g5:=(hown.1 5).2
   clear CB hb2 q1 hW9 hown
   go_wp2_with fail
   rw[HW9.out]
   clear z0 z1 z2 z3 z4 z5
   have z0:W9.cell? ⟨w.heap.size,0,none⟩=some (.int .u8 kx):=HY.out 0 (by omega)
   have z1:W9.cell? ⟨w.heap.size,1,none⟩=some (.int .i64 px):=HY.out 1 (by omega)
   have z2:W9.cell? ⟨w.heap.size,2,none⟩=some (.string nx):=HY.out 2 (by omega)
   have z3:W9.cell? ⟨w.heap.size,3,none⟩=some (.int .i64 ix):=HY.out 3 (by omega)
   have z4:W9.cell? ⟨w.heap.size,4,none⟩=some (.int .i64 dx):=HY.out 4 (by omega)
   have z5:W9.cell? ⟨w.heap.size,5,none⟩=some (.slice ax lx.length cx):=HY.out 5 (by omega)
   have HP2:Hid (Post W0 R op w res (IsEx w.heap.size) (.returned (.agg #[.int .u8 kx,.int .i64 px,.string nx,.int .i64 ix,.int .i64 dx,.slice ax lx.length cx])) W9):=by rw[Hid,HRes2.out];exact HP.out
   refine⟨_,by simp[results,Tryz.results63,go_sem, *];try rfl,HP2.out⟩
  | some k =>
   have hne:=sgn_text hs
   have HKwf:=hid (sgn_wf hs)
   obtain⟨hE2,t',r',rfl⟩:=HE1.out.more (Or.inr hne)
   have HE2:=hid hE2
   have HRes2:Hid (res=openT op (t::t'::r') fun t2=>(pp n 1 (op+1) t2).then fun b t3=>.ok (mk2 k (Ex.bare ⟨kx,px,nx,ix,dx,ax,cx,lx⟩) b,t3)):=by rw[Hid,HRes1.out,hs]
   rw[hs] at CB
   simp only[Option.isSome_some,Option.getD_some] at CB
   clear hs hne hE2
   by_cases h200:op=200
   ·subst h200
    have HNE:Hid (∀w2,Below wL.heap.size wL w2→Calls Tryz.prog 64 #[.pointer (some ⟨R,0,none⟩)] w2 fun x w'=>x=.panicked [{ v:=badVal t.place 61,recovered:=false }]∧Below w2.heap.size w2 w'):=fun w2 hb=>noenter_rd (HRL.out.below hb)
    have HRes3:Hid (res=.error (t.place,61)):=HRes2.out
    go_wp2_with fail
    rw[HWL.out]
    simp only[←hB]
    clear hB
    refine CB.mono ?_
    rintro r2 w2 ⟨rfl,hb2⟩
    have HB2:=hid hb2
    have CT:=HNE.out w2 hb2
    clear CB hb2
    go_wp2_with fail
    refine CT.mono ?_
    rintro r3 w3 ⟨rfl,hb3⟩
    have HB3:=hid (HB2.out.trans (hb3.mono HB2.out.size))
    clear CT hb3
    go_wp2_with fail
    show Post W0 R 200 w res (IsEx w.heap.size) (.panicked [{ v:=badVal t.place 61,recovered:=false }]) w3
    rw[HRes3.out]
    exact⟨HKL.out.trans (KeepsB.ofBelow HB3.out),rfl,_,HRL.out.below HB3.out⟩
   ·have HT:Hid (∀w2,Below wL.heap.size wL w2→Calls Tryz.prog 64 #[.pointer (some ⟨R,0,none⟩)] w2 fun x w'=>x=.returned (tkVal t)∧RdAt W0 R (t'::r') (op+1) w'∧KeepsB R w2 w'):=fun w2 hb=>enter_rd (HRL.out.below hb) (by have:=HLe.out;omega)
    have HResO : Hid (res = (pp n 1 (op + 1) (t' :: r')).then fun b t3 => .ok (mk2 k (Ex.bare ⟨kx, px, nx, ix, dx, ax, cx, lx⟩) b, t3)) := by rw [Hid, HRes2.out, openT, if_neg h200]; rfl
    have HN2 : Hid (∀ k, pp n 1 (op + 1) (t' :: r') ≠ .error (k, 0)) := fun kk h => HNs.out kk (by rw [HResO.out, h]; rfl)
    simp only[tkVal,tkCells] at HT
    go_wp2_with fail
    rw[HWL.out]
    simp only[←hB]
    clear hB
    refine CB.mono ?_
    rintro r2 w2 ⟨rfl,hb2⟩
    have HB2:=hid hb2
    have CT:=HT.out w2 hb2
    clear CB hb2
    go_wp2_with fail
    refine CT.mono ?_
    rintro r3 w3 ⟨rfl,hr3,hk3⟩
    have HR3:=hid hr3
    have HKL3:=hid ((KeepsB.ofBelow HB2.out).trans hk3)
    have HK3:=hid (HKL.out.trans HKL3.out)
    clear CT hr3 hk3
    have hlt3:B<w3.heap.size:=Nat.lt_of_lt_of_le HBl.out HKL3.out.size
    have q1:=HBk.out w3 HKL3.out
    have c0:w3.cell? ⟨B,0,none⟩=some (.int .u8 kx):=q1 0 (by omega)
    have c1:w3.cell? ⟨B,1,none⟩=some (.int .i64 px):=q1 1 (by omega)
    have c2:w3.cell? ⟨B,2,none⟩=some (.string nx):=q1 2 (by omega)
    have c3:w3.cell? ⟨B,3,none⟩=some (.int .i64 ix):=q1 3 (by omega)
    have c4:w3.cell? ⟨B,4,none⟩=some (.int .i64 dx):=q1 4 (by omega)
    have c5:w3.cell? ⟨B,5,none⟩=some (.slice ax lx.length cx):=q1 5 (by omega)
    have HL3:Hid (Lies (fun k=>w.heap.size<k∧k≠B) w3 ⟨kx,px,nx,ix,dx,ax,cx,lx⟩):=HLL.out.keep (KeepsQ.ofB HKL3.out fun h=>by have:=HRd.out.2;omega)
    have HO3:=hid (HOL.out.keep HKL3.out HBR.out.2.2.2)
    have HP : Hid (∀ W, RdAt W0 R (t' :: r') (op + 1) W → Calls Tryz.prog 63 #[.pointer (some ⟨R, 0, none⟩)] W (Post W0 R (op + 1) W (pp n 1 (op + 1) (t' :: r')) (IsEx W.heap.size))) := fun W hr => HM.out (op + 1) (t' :: r') W HE2.out hr HN2.out
    have HJ:Hid (∀(y:Ex) W,Calls Tryz.prog 102 #[.int .u8 k,.agg #[.int .u8 kx,.int .i64 px,.string nx,.int .i64 ix,.int .i64 dx,.slice ax lx.length cx],y.val] W fun r w'=>∃c,r=.returned (.agg #[.int .u8 k,.int .i64 px,.string ⟨#[]⟩,.int .i64 0,.int .i64 0,.slice (some ⟨c,0,none⟩) 2 2])∧W.heap.size≤c∧c<w'.heap.size∧(∀j,j<12→w'.cell? ⟨c,j,none⟩=(Ex.cells ⟨kx,px,nx,ix,dx,ax,cx,lx⟩++y.cells)[j]?)∧Below W.heap.size W w'):=fun y W=>join_calls k ⟨kx,px,nx,ix,dx,ax,cx,lx⟩ y W
    cases hpp : pp n 1 (op + 1) (t' :: r') with
    | error er =>
     obtain⟨kk,ee⟩:=er
     rw[hpp] at HP HResO
     have HRes3:Hid (res=.error (kk,ee)):=HResO.out
     clear q1 HResO hpp
     go_wp2_with fail
     refine wp_region_any (by kernel_rfl) ?_
     change wpAny _ _ _ _ _ _ _ (World.drew _)
     refine wpAny_ready (rs:=[0,1,2]) (by kernel_rfl) (by simp) ?_
     refine AllReady.cons rfl (fun K hK=>?_) ?_
     ·go_simp
      refine hK _ _ ?_
      clear hK K
      refine wpAny_ready (rs:=[1,2]) (by kernel_rfl) (by simp) ?_
      refine AllReady.cons rfl (fun K hK=>?_) ?_
      ·go_simp
       refine hK _ _ ?_
       clear hK K
       refine wpAny_ready (rs:=[2]) (by kernel_rfl) (by simp) ?_
       refine AllReady.cons rfl (fun K hK=>?_) AllReady.nil
       go_simp
       refine hK _ _ ?_
       clear hK K
       refine wpAny_ready (rs:=[3]) (by kernel_rfl) (by simp) ?_
       refine AllReady.cons rfl (fun K hK=>?_) AllReady.nil
       go_simp
       refine(HP.out w3.drew HR3.out.drew).mono ?_
       rintro r4 w4 ⟨hk4,rfl,t4,hr4⟩
       have HK4:Hid (KeepsB R w3 w4):=⟨hk4.os,hk4.tape,hk4.output,hk4.size,hk4.block⟩
       have HR4:Hid _:=hr4
       clear hk4 hr4
       go_wp2_with fail
       refine leaves_cons (f:=65) (args:=#[rp R]) (by simp) (by simp[go_sem,rp]) ?_
       refine(leave_d _ HR4.out).mono ?_
       rintro e u' w9 ⟨rfl,rfl,hr9,hk9⟩
       show Post W0 R op w res (IsEx w.heap.size) (.panicked [{ v:=badVal kk ee,recovered:=false }]) w9
       rw[HRes3.out]
       exact⟨(HK3.out.trans HK4.out).trans hk9,rfl,_,hr9⟩
      refine AllReady.cons rfl (fun K hK=>?_) AllReady.nil
      go_simp
      refine hK _ _ ?_
      clear hK K
      refine wpAny_ready (rs:=[1,3]) (by kernel_rfl) (by simp) ?_
      refine AllReady.cons rfl (fun K hK=>?_) ?_
      ·go_simp
       refine hK _ _ ?_
       clear hK K
       refine wpAny_ready (rs:=[3]) (by kernel_rfl) (by simp) ?_
       refine AllReady.cons rfl (fun K hK=>?_) AllReady.nil
       go_simp
       refine(HP.out w3.drew HR3.out.drew).mono ?_
       rintro r4 w4 ⟨hk4,rfl,t4,hr4⟩
       have HK4:Hid (KeepsB R w3 w4):=⟨hk4.os,hk4.tape,hk4.output,hk4.size,hk4.block⟩
       have HR4:Hid _:=hr4
       clear hk4 hr4
       go_wp2_with fail
       refine leaves_cons (f:=65) (args:=#[rp R]) (by simp) (by simp[go_sem,rp]) ?_
       refine(leave_d _ HR4.out).mono ?_
       rintro e u' w9 ⟨rfl,rfl,hr9,hk9⟩
       show Post W0 R op w res (IsEx w.heap.size) (.panicked [{ v:=badVal kk ee,recovered:=false }]) w9
       rw[HRes3.out]
       exact⟨(HK3.out.trans HK4.out).trans hk9,rfl,_,hr9⟩
      refine AllReady.cons rfl (fun K hK=>?_) AllReady.nil
      go_simp
      refine(HP.out w3.drew HR3.out.drew).mono ?_
      rintro r4 w4 ⟨hk4,rfl,t4,hr4⟩
      have HK4:Hid (KeepsB R w3 w4):=⟨hk4.os,hk4.tape,hk4.output,hk4.size,hk4.block⟩
      have HR4:Hid _:=hr4
      clear hk4 hr4
      go_wp2_with fail
      refine leaves_cons (f:=65) (args:=#[rp R]) (by simp) (by simp[go_sem,rp]) ?_
      refine(leave_d _ HR4.out).mono ?_
      rintro e u' w9 ⟨rfl,rfl,hr9,hk9⟩
      show Post W0 R op w res (IsEx w.heap.size) (.panicked [{ v:=badVal kk ee,recovered:=false }]) w9
      rw[HRes3.out]
      exact⟨(HK3.out.trans HK4.out).trans hk9,rfl,_,hr9⟩
     refine AllReady.cons rfl (fun K hK=>?_) ?_
     ·go_simp
      refine hK _ _ ?_
      clear hK K
      refine wpAny_ready (rs:=[0,2]) (by kernel_rfl) (by simp) ?_
      refine AllReady.cons rfl (fun K hK=>?_) ?_
      ·go_simp
       refine hK _ _ ?_
       clear hK K
       refine wpAny_ready (rs:=[2]) (by kernel_rfl) (by simp) ?_
       refine AllReady.cons rfl (fun K hK=>?_) AllReady.nil
       go_simp
       refine hK _ _ ?_
       clear hK K
       refine wpAny_ready (rs:=[3]) (by kernel_rfl) (by simp) ?_
       refine AllReady.cons rfl (fun K hK=>?_) AllReady.nil
       go_simp
       refine(HP.out w3.drew HR3.out.drew).mono ?_
       rintro r4 w4 ⟨hk4,rfl,t4,hr4⟩
       have HK4:Hid (KeepsB R w3 w4):=⟨hk4.os,hk4.tape,hk4.output,hk4.size,hk4.block⟩
       have HR4:Hid _:=hr4
       clear hk4 hr4
       go_wp2_with fail
       refine leaves_cons (f:=65) (args:=#[rp R]) (by simp) (by simp[go_sem,rp]) ?_
       refine(leave_d _ HR4.out).mono ?_
       rintro e u' w9 ⟨rfl,rfl,hr9,hk9⟩
       show Post W0 R op w res (IsEx w.heap.size) (.panicked [{ v:=badVal kk ee,recovered:=false }]) w9
       rw[HRes3.out]
       exact⟨(HK3.out.trans HK4.out).trans hk9,rfl,_,hr9⟩
      refine AllReady.cons rfl (fun K hK=>?_) AllReady.nil
      go_simp
      refine hK _ _ ?_
      clear hK K
      refine wpAny_ready (rs:=[0,3]) (by kernel_rfl) (by simp) ?_
      refine AllReady.cons rfl (fun K hK=>?_) ?_
      ·go_simp
       refine hK _ _ ?_
       clear hK K
       refine wpAny_ready (rs:=[3]) (by kernel_rfl) (by simp) ?_
       refine AllReady.cons rfl (fun K hK=>?_) AllReady.nil
       go_simp
       refine(HP.out w3.drew HR3.out.drew).mono ?_
       rintro r4 w4 ⟨hk4,rfl,t4,hr4⟩
       have HK4:Hid (KeepsB R w3 w4):=⟨hk4.os,hk4.tape,hk4.output,hk4.size,hk4.block⟩
       have HR4:Hid _:=hr4
       clear hk4 hr4
       go_wp2_with fail
       refine leaves_cons (f:=65) (args:=#[rp R]) (by simp) (by simp[go_sem,rp]) ?_
       refine(leave_d _ HR4.out).mono ?_
       rintro e u' w9 ⟨rfl,rfl,hr9,hk9⟩
       show Post W0 R op w res (IsEx w.heap.size) (.panicked [{ v:=badVal kk ee,recovered:=false }]) w9
       rw[HRes3.out]
       exact⟨(HK3.out.trans HK4.out).trans hk9,rfl,_,hr9⟩
      refine AllReady.cons rfl (fun K hK=>?_) AllReady.nil
      go_simp
      refine(HP.out w3.drew HR3.out.drew).mono ?_
      rintro r4 w4 ⟨hk4,rfl,t4,hr4⟩
      have HK4:Hid (KeepsB R w3 w4):=⟨hk4.os,hk4.tape,hk4.output,hk4.size,hk4.block⟩
      have HR4:Hid _:=hr4
      clear hk4 hr4
      go_wp2_with fail
      refine leaves_cons (f:=65) (args:=#[rp R]) (by simp) (by simp[go_sem,rp]) ?_
      refine(leave_d _ HR4.out).mono ?_
      rintro e u' w9 ⟨rfl,rfl,hr9,hk9⟩
      show Post W0 R op w res (IsEx w.heap.size) (.panicked [{ v:=badVal kk ee,recovered:=false }]) w9
      rw[HRes3.out]
      exact⟨(HK3.out.trans HK4.out).trans hk9,rfl,_,hr9⟩
     refine AllReady.cons rfl (fun K hK=>?_) AllReady.nil
     go_simp
     refine hK _ _ ?_
     clear hK K
     refine wpAny_ready (rs:=[0,1,3]) (by kernel_rfl) (by simp) ?_
     refine AllReady.cons rfl (fun K hK=>?_) ?_
     ·go_simp
      refine hK _ _ ?_
      clear hK K
      refine wpAny_ready (rs:=[1,3]) (by kernel_rfl) (by simp) ?_
      refine AllReady.cons rfl (fun K hK=>?_) ?_
      ·go_simp
       refine hK _ _ ?_
       clear hK K
       refine wpAny_ready (rs:=[3]) (by kernel_rfl) (by simp) ?_
       refine AllReady.cons rfl (fun K hK=>?_) AllReady.nil
       go_simp
       refine(HP.out w3.drew HR3.out.drew).mono ?_
       rintro r4 w4 ⟨hk4,rfl,t4,hr4⟩
       have HK4:Hid (KeepsB R w3 w4):=⟨hk4.os,hk4.tape,hk4.output,hk4.size,hk4.block⟩
       have HR4:Hid _:=hr4
       clear hk4 hr4
       go_wp2_with fail
       refine leaves_cons (f:=65) (args:=#[rp R]) (by simp) (by simp[go_sem,rp]) ?_
       refine(leave_d _ HR4.out).mono ?_
       rintro e u' w9 ⟨rfl,rfl,hr9,hk9⟩
       show Post W0 R op w res (IsEx w.heap.size) (.panicked [{ v:=badVal kk ee,recovered:=false }]) w9
       rw[HRes3.out]
       exact⟨(HK3.out.trans HK4.out).trans hk9,rfl,_,hr9⟩
      refine AllReady.cons rfl (fun K hK=>?_) AllReady.nil
      go_simp
      refine(HP.out w3.drew HR3.out.drew).mono ?_
      rintro r4 w4 ⟨hk4,rfl,t4,hr4⟩
      have HK4:Hid (KeepsB R w3 w4):=⟨hk4.os,hk4.tape,hk4.output,hk4.size,hk4.block⟩
      have HR4:Hid _:=hr4
      clear hk4 hr4
      go_wp2_with fail
      refine leaves_cons (f:=65) (args:=#[rp R]) (by simp) (by simp[go_sem,rp]) ?_
      refine(leave_d _ HR4.out).mono ?_
      rintro e u' w9 ⟨rfl,rfl,hr9,hk9⟩
      show Post W0 R op w res (IsEx w.heap.size) (.panicked [{ v:=badVal kk ee,recovered:=false }]) w9
      rw[HRes3.out]
      exact⟨(HK3.out.trans HK4.out).trans hk9,rfl,_,hr9⟩
     refine AllReady.cons rfl (fun K hK=>?_) ?_
     ·go_simp
      refine hK _ _ ?_
      clear hK K
      refine wpAny_ready (rs:=[0,3]) (by kernel_rfl) (by simp) ?_
      refine AllReady.cons rfl (fun K hK=>?_) ?_
      ·go_simp
       refine hK _ _ ?_
       clear hK K
       refine wpAny_ready (rs:=[3]) (by kernel_rfl) (by simp) ?_
       refine AllReady.cons rfl (fun K hK=>?_) AllReady.nil
       go_simp
       refine(HP.out w3.drew HR3.out.drew).mono ?_
       rintro r4 w4 ⟨hk4,rfl,t4,hr4⟩
       have HK4:Hid (KeepsB R w3 w4):=⟨hk4.os,hk4.tape,hk4.output,hk4.size,hk4.block⟩
       have HR4:Hid _:=hr4
       clear hk4 hr4
       go_wp2_with fail
       refine leaves_cons (f:=65) (args:=#[rp R]) (by simp) (by simp[go_sem,rp]) ?_
       refine(leave_d _ HR4.out).mono ?_
       rintro e u' w9 ⟨rfl,rfl,hr9,hk9⟩
       show Post W0 R op w res (IsEx w.heap.size) (.panicked [{ v:=badVal kk ee,recovered:=false }]) w9
       rw[HRes3.out]
       exact⟨(HK3.out.trans HK4.out).trans hk9,rfl,_,hr9⟩
      refine AllReady.cons rfl (fun K hK=>?_) AllReady.nil
      go_simp
      refine(HP.out w3.drew HR3.out.drew).mono ?_
      rintro r4 w4 ⟨hk4,rfl,t4,hr4⟩
      have HK4:Hid (KeepsB R w3 w4):=⟨hk4.os,hk4.tape,hk4.output,hk4.size,hk4.block⟩
      have HR4:Hid _:=hr4
      clear hk4 hr4
      go_wp2_with fail
      refine leaves_cons (f:=65) (args:=#[rp R]) (by simp) (by simp[go_sem,rp]) ?_
      refine(leave_d _ HR4.out).mono ?_
      rintro e u' w9 ⟨rfl,rfl,hr9,hk9⟩
      show Post W0 R op w res (IsEx w.heap.size) (.panicked [{ v:=badVal kk ee,recovered:=false }]) w9
      rw[HRes3.out]
      exact⟨(HK3.out.trans HK4.out).trans hk9,rfl,_,hr9⟩
     refine AllReady.cons rfl (fun K hK=>?_) AllReady.nil
     go_simp
     refine(HP.out w3.drew HR3.out.drew).mono ?_
     rintro r4 w4 ⟨hk4,rfl,t4,hr4⟩
     have HK4:Hid (KeepsB R w3 w4):=⟨hk4.os,hk4.tape,hk4.output,hk4.size,hk4.block⟩
     have HR4:Hid _:=hr4
     clear hk4 hr4
     go_wp2_with fail
     refine leaves_cons (f:=65) (args:=#[rp R]) (by simp) (by simp[go_sem,rp]) ?_
     refine(leave_d _ HR4.out).mono ?_
     rintro e u' w9 ⟨rfl,rfl,hr9,hk9⟩
     show Post W0 R op w res (IsEx w.heap.size) (.panicked [{ v:=badVal kk ee,recovered:=false }]) w9
     rw[HRes3.out]
     exact⟨(HK3.out.trans HK4.out).trans hk9,rfl,_,hr9⟩
    | ok pr =>
     obtain⟨e2,t2⟩:=pr
     rw[hpp] at HP HResO
     have HRes3:Hid (res=.ok (mk2 k (Ex.bare ⟨kx,px,nx,ix,dx,ax,cx,lx⟩) e2,t2)):=HResO.out
     have hneB:B≠w.heap.size:=(Nat.ne_of_lt HBR.out.1).symm
     have HW3:=hid (HO3.out.2)
     clear q1 HResO hpp
     go_wp2_with fail
     refine wp_region_noPanic ?_
     go_region_law (first
      | (go_simp;refine(HP.out w3.drew HR3.out.drew).mono ?_;rintro r4 w4 ⟨hk4,⟨v4,rfl,x4,hbx,rfl,hlx,hgx⟩,hr4,hE4⟩;have hk4':KeepsB R w3 w4:=⟨hk4.os,hk4.tape,hk4.output,hk4.size,hk4.block⟩;have q1:=HBk.out w4 (HKL3.out.trans hk4');have d0:w4.cell? ⟨B,0,none⟩=some (.int .u8 kx):=q1 0 (by omega);have d1:w4.cell? ⟨B,1,none⟩=some (.int .i64 px):=q1 1 (by omega);have d2:w4.cell? ⟨B,2,none⟩=some (.string nx):=q1 2 (by omega);have d3:w4.cell? ⟨B,3,none⟩=some (.int .i64 ix):=q1 3 (by omega);have d4:w4.cell? ⟨B,4,none⟩=some (.int .i64 dx):=q1 4 (by omega);have d5:w4.cell? ⟨B,5,none⟩=some (.slice ax lx.length cx):=q1 5 (by omega);have HK4:Hid _:=hk4';have HBX:Hid _:=hbx;have HLX:Hid (Lies (fun k=>w3.heap.size≤k) w4 x4):=hlx;have HGX:Hid _:=hgx;have HR4:Hid _:=hr4;have HE4:Hid (Ends t2):=hE4;clear hk4 hk4' q1 hbx hlx hgx hr4 hE4;go_wp2_with fail)
      | (go_simp;refine(HJ.out x4 w4).mono ?_;rintro r5 w5 ⟨cc,rfl,hj1,hj2,hj3,hj4⟩;have hk5:KeepsB R w3 w5:=HK4.out.trans (KeepsB.ofBelow hj4);have ow5:=HO3.out.keep hk5 HBR.out.2.2.2;have hlt5:w.heap.size<w5.heap.size:=ow5.2;have z0:w5.cell? ⟨w.heap.size,0,none⟩=some (.int .u8 0):=(ow5.1 0).1;have z1:w5.cell? ⟨w.heap.size,1,none⟩=some (.int .i64 0):=(ow5.1 1).1;have z2:w5.cell? ⟨w.heap.size,2,none⟩=some (.string ⟨#[]⟩):=(ow5.1 2).1;have z3:w5.cell? ⟨w.heap.size,3,none⟩=some (.int .i64 0):=(ow5.1 3).1;have z4:w5.cell? ⟨w.heap.size,4,none⟩=some (.int .i64 0):=(ow5.1 4).1;have z5:w5.cell? ⟨w.heap.size,5,none⟩=some (.slice none 0 0):=(ow5.1 5).1;have g0:=(ow5.1 0).2;have g1:=(ow5.1 1).2;have g2:=(ow5.1 2).2;have g3:=(ow5.1 3).2;have g4:=(ow5.1 4).2;have g5:=(ow5.1 5).2;have HO5:Hid (Own w5 w.heap.size):=ow5;have HK5:Hid _:=hk5;have HJ1:Hid _:=hj1;have HJ2:Hid _:=hj2;have HJ3:Hid _:=hj3;have HJ4:Hid _:=hj4;clear hj1 hj2 hj3 hj4 hk5 ow5;go_wp2_with fail)
      | go_simp)
     all_goals
      refine NoPanic.normal ?_
      have hx5:Lies (fun k=>w.heap.size<k∧k≠B) w5 ⟨kx,px,nx,ix,dx,ax,cx,lx⟩:=(HL3.out.keep (KeepsQ.ofB HK4.out fun h=>by have:=HRd.out.2;omega)).keep (KeepsQ.ofBelow HJ4.out)
      have hy5:Lies (fun k=>w.heap.size<k∧k≠B) w5 x4:=(HLX.out.mono fun k _ h=>⟨by have:=HBR.out.1;omega,by omega⟩).keep (KeepsQ.ofBelow HJ4.out)
      have h4s:w3.heap.size≤w4.heap.size:=HK4.out.size
      have hcc:=HJ1.out
      have hgx:=HG.out
      simp only[Ex.good] at hgx
      have hgN:Ex.good ⟨k,px,⟨#[]⟩,0,0,some ⟨cc,0,none⟩,2,[⟨kx,px,nx,ix,dx,ax,cx,lx⟩,x4]⟩:=⟨⟨HKwf.out,hgx.1.2.1,by decide +kernel,by decide,by decide,Nat.le_refl _,by decide +kernel⟩,HG.out,HGX.out,trivial⟩
      have hlN:Lies (fun k=>w.heap.size<k) w5 ⟨k,px,⟨#[]⟩,0,0,some ⟨cc,0,none⟩,2,[⟨kx,px,nx,ix,dx,ax,cx,lx⟩,x4]⟩:=(lies_two HJ3.out ⟨by have:=HBR.out.1;omega,by omega⟩ HJ2.out hx5 hy5).mono fun k _ h=>h.1
      have HRs:Hid (res=.ok (Ex.bare ⟨k,px,⟨#[]⟩,0,0,some ⟨cc,0,none⟩,2,[⟨kx,px,nx,ix,dx,ax,cx,lx⟩,x4]⟩,t2)):=by rw[Hid,HRes3.out,←HBX.out];rfl
      have HY:Hid _:=exStore_cell ⟨k,px,⟨#[]⟩,0,0,some ⟨cc,0,none⟩,2,[⟨kx,px,nx,ix,dx,ax,cx,lx⟩,x4]⟩ fun j=>(HO5.out.1 j).1
      obtain⟨W9,hW9⟩:∃W9,W9=exStore w5 w.heap.size ⟨k,px,⟨#[]⟩,0,0,some ⟨cc,0,none⟩,2,[⟨kx,px,nx,ix,dx,ax,cx,lx⟩,x4]⟩:=⟨_,rfl⟩
      have HR9:Hid (RdAt W0 R t2 (op+1) W9):=by rw[Hid,hW9];exact set6_rd (HR4.out.below HJ4.out) HRd.out.1 _ _ _ _ _ _
      have HK9:Hid (KeepsB R w W9):=by rw[Hid,hW9];exact set6_keepsB (HK3.out.trans HK5.out) (Nat.le_refl _) _ _ _ _ _ _
      have HL9:Hid (Lies (fun k=>w.heap.size<k) W9 ⟨k,px,⟨#[]⟩,0,0,some ⟨cc,0,none⟩,2,[⟨kx,px,nx,ix,dx,ax,cx,lx⟩,x4]⟩):=by rw[Hid,hW9];exact hlN.keep (set6_keepsQ (fun h=>Nat.lt_irrefl _ h) _ _ _ _ _ _)
      have HS9:Hid (w.heap.size<W9.heap.size):=by rw[Hid,hW9,exStore,set6_size];exact hlt5
      have HGN:=hid hgN
      rw[←hW9] at HY
      have HW9:Hid (((((((w5.setCell ⟨w.heap.size,0,none⟩ (.int .u8 k)).setCell ⟨w.heap.size,1,none⟩ (.int .i64 px)).setCell ⟨w.heap.size,2,none⟩ (.string ⟨#[]⟩)).setCell ⟨w.heap.size,3,none⟩ (.int .i64 0)).setCell ⟨w.heap.size,4,none⟩ (.int .i64 0)).setCell ⟨w.heap.size,5,none⟩ (.slice (some ⟨cc,0,none⟩) 2 2))=W9):=hW9.symm
      clear hx5 hy5 hgx hgN hlN hW9 h4s hcc
      go_wp2_with fail
      rw[HW9.out]
      clear z0 z1 z2 z3 z4 z5 g0 g1 g2 g3 g4 g5
      refine leaves_cons (f:=65) (args:=#[rp R]) (by simp) (by simp[go_sem,rp]) ?_
      refine(leave_d _ HR9.out).mono ?_
      rintro e u' w6 ⟨rfl,rfl,hr6,hk6⟩
      have hy:∀j,j<6→w6.cell? ⟨w.heap.size,j,none⟩=[.int .u8 k,.int .i64 px,.string ⟨#[]⟩,.int .i64 0,.int .i64 0,.slice (some ⟨cc,0,none⟩) 2 2][j]?:=fun j hj=>(hk6.cell HS9.out HBR.out.2.2.2).1.trans (HY.out j hj)
      have z0:w6.cell? ⟨w.heap.size,0,none⟩=some (.int .u8 k):=hy 0 (by omega)
      have z1:w6.cell? ⟨w.heap.size,1,none⟩=some (.int .i64 px):=hy 1 (by omega)
      have z2:w6.cell? ⟨w.heap.size,2,none⟩=some (.string ⟨#[]⟩):=hy 2 (by omega)
      have z3:w6.cell? ⟨w.heap.size,3,none⟩=some (.int .i64 0):=hy 3 (by omega)
      have z4:w6.cell? ⟨w.heap.size,4,none⟩=some (.int .i64 0):=hy 4 (by omega)
      have z5:w6.cell? ⟨w.heap.size,5,none⟩=some (.slice (some ⟨cc,0,none⟩) 2 2):=hy 5 (by omega)
      have HPost:Hid (Post W0 R op w res (IsEx w.heap.size) (.returned (.agg #[.int .u8 k,.int .i64 px,.string ⟨#[]⟩,.int .i64 0,.int .i64 0,.slice (some ⟨cc,0,none⟩) 2 2])) w6):=by
       rw[Hid,HRs.out]
       refine⟨HK9.out.trans hk6,⟨_,rfl,⟨k,px,⟨#[]⟩,0,0,some ⟨cc,0,none⟩,2,[⟨kx,px,nx,ix,dx,ax,cx,lx⟩,x4]⟩,rfl,rfl,?_,HGN.out⟩,hr6,HE4.out⟩
       exact(HL9.out.keep (KeepsQ.ofB hk6 (fun h=>by have:=HRd.out.2;omega))).mono fun k _ h=>Nat.le_of_lt h
      clear hy hr6 hk6
      refine⟨_,by simp[results,Tryz.results63,go_sem, *];try rfl,HPost.out⟩
theorem want_all{W0:World}{R op:Nat}{t:Tok}{ts:List Tok}{w:World}(s:ByteArray)(hs:s≠⟨#[]⟩)(h:RdAt W0 R (t::ts) op w)(hE:Ends (t::ts)):Calls Tryz.prog 66 #[rp R,.string s] w (Post W0 R op w (wantT s (t::ts)) fun _ _ v=>v=.tuple #[]):=by
 by_cases hn:t.text=s
 ·obtain⟨hE2,t',r,rfl⟩:=hE.more (Or.inr (by rw[hn];exact hs))
  have e:wantT s (t::t'::r)=.ok ((),t'::r):=if_pos hn
  rw[e]
  refine(want_rd s h hn).mono ?_
  rintro x w' ⟨rfl,hr,hk⟩
  exact⟨hk,⟨_,rfl,rfl⟩,hr,hE2⟩
 ·have e:wantT s (t::ts)=.error ((t.place:Nat),60):=if_neg hn
  rw[e]
  refine(nowant_rd s h hn).mono ?_
  rintro x w' ⟨rfl,hb⟩
  exact⟨KeepsB.ofBelow hb,rfl,_,h.below hb⟩
theorem lieAt_row{Q:Nat→Prop}{c:Nat}{w:World}(l:List Ex)(o:Nat)(hQ:Q c)(hlt:c<w.heap.size)(hc:∀i (h:i<l.length) j,j<6→w.cell? ⟨c,o+i*6+j,none⟩=l[i].cells[j]?)(hx:∀x∈l,Lies Q w x):∀w',KeepsQ Q w w'→lieAt w' c o l:=by
 intro w' hk
 induction l generalizing o with
 | nil=>exact trivial
 | cons e r ih =>
  refine⟨fun j hj=>?_,hx e (by simp) w' hk,ih (o+6) (fun i h j hj=>?_) fun x h=>hx x (by simp[h])⟩
  ·have:=hc 0 (by simp) j hj
   simp only[Nat.zero_mul,Nat.add_zero,List.getElem_cons_zero] at this
   exact(World.cell?_of_block (hk.2 c hQ hlt)).trans this
  ·have:=hc (i+1) (by simpa using h) j hj
   rw[show o+(i+1)*6+j=o+6+i*6+j by omega] at this
   simpa using this
theorem lies_row{Q:Nat→Prop}{c n:Nat}{w:World}{k p it dn:Int}{nm:ByteArray}(l:List Ex)(hQ:Q c)(hlt:c<w.heap.size)(hc:∀i (h:i<l.length) j,j<6→w.cell? ⟨c,i*6+j,none⟩=l[i].cells[j]?)(hx:∀x∈l,Lies Q w x):Lies Q w (.mk k p nm it dn (some ⟨c,0,none⟩) n l):=fun w' hk =>
 ⟨c,0,fun _=>rfl,lieAt_row l 0 hQ hlt (fun i h j hj=>by rw[Nat.zero_add];exact hc i h j hj) hx w' hk⟩
theorem lies_three{Q:Nat→Prop}{c:Nat}{w:World}{k p it dn:Int}{nm:ByteArray}{x y z:Ex}(hc:∀j,j<18→w.cell? ⟨c,j,none⟩=(x.cells++y.cells++z.cells)[j]?)(hQ:Q c)(hlt:c<w.heap.size)(hx:Lies Q w x)(hy:Lies Q w y)(hz:Lies Q w z):Lies Q w (.mk k p nm it dn (some ⟨c,0,none⟩) 3 [x,y,z]):=by
 have hcx:x.cells.length=6:=by cases x;rfl
 have hcy:y.cells.length=6:=by cases y;rfl
 refine lies_row [x,y,z] hQ hlt (fun i h j hj=>?_) fun u hu=>?_
 ·rw[hc (i*6+j) (by simp only[lC,lN] at h;omega)]
  match i,h with
  | 0,_=>rw[List.getElem?_append_left (by rw[List.length_append];omega),List.getElem?_append_left (by omega)];simp
  | 1,_=>rw[List.getElem?_append_left (by rw[List.length_append];omega),List.getElem?_append_right (by omega),hcx,show 1*6+j-6=j by omega];simp
  | 2,_=>rw[List.getElem?_append_right (by rw[List.length_append];omega),List.length_append,hcx,hcy,show 2*6+j-(6+6)=j by omega];simp
 ·simp only[List.mem_cons,List.not_mem_nil,or_false] at hu
  rcases hu with rfl|rfl|rfl
  ·exact hx
  ·exact hy
  ·exact hz
def ifC(n op:Nat)(pl:Int)(a b:Ex)(ts:List Tok):PR Ex:=(pp n 0 (op+1) ts).then fun c t6=>.ok (.mk 20 pl ⟨#[]⟩ 0 0 none 0 [a,b,c],t6)
def ifE(n op:Nat)(pl:Int)(a b:Ex)(ts:List Tok):PR Ex:=(wantT ⟨#[101,108,115,101]⟩ ts).then fun _ t5=>ifC n op pl a b t5
def ifB(n op:Nat)(pl:Int)(a:Ex)(ts:List Tok):PR Ex:=(pp n 0 (op+1) ts).then fun b t4=>ifE n op pl a b t4
def ifT(n op:Nat)(pl:Int)(a:Ex)(ts:List Tok):PR Ex:=(wantT ⟨#[116,104,101,110]⟩ ts).then fun _ t3=>ifB n op pl a t3
def ifA(n op:Nat)(pl:Int)(ts:List Tok):PR Ex:=(pp n 0 (op+1) ts).then fun a t2=>ifT n op pl a t2
theorem pp_if(n op:Nat)(t:Tok)(ts:List Tok):pp (n+1) 0 op (t::ts)=if t.text=⟨#[105,102]⟩ then openT op (t::ts) (ifA n op t.place) else pp n 1 op (t::ts):=rfl
set_option maxRecDepth 100000 in
set_option maxHeartbeats 12800000 in
theorem expr_rd{W0:World}{R:Nat}(n:Nat)(hpe:DoesE W0 R 34 (pp n 0))(hpl:DoesE W0 R 63 (pp n 1)):DoesE W0 R 34 (pp (n+1) 0):=by
 intro op ts w hE hrd hns
 obtain⟨w0,hw0⟩:∃w0:World,w0=w.alloc (.cells #[.int .u8 0,.int .i64 0,.string ⟨#[]⟩,.int .i64 0,.int .i64 0,.slice none 0 0] 27):=⟨_,rfl⟩
 have hb0:Below w.heap.size w w0:=by rw[hw0];exact bal _
 have HS0:Hid (w0.heap.size=w.heap.size+1):=by rw[Hid,hw0];simp
 have HO0:Hid (Own w0 w.heap.size):=by rw[Hid,hw0];exact Own.made w _ rfl
 have HW0:=hid hw0.symm
 have HB0:=hid hb0
 have HRd:Hid (W0.heap.size≤w.heap.size∧R<w.heap.size):=⟨hrd.keeps.size,hrd.lt⟩
 have HneR:Hid (w.heap.size≠R):=by have:=hrd.lt;rw[Hid];omega
 have HLe:=hid (hrd.le)
 obtain⟨t,r,rfl⟩:=hE.ne
 have hr0:=hrd.below hb0
 have HR0:=hid hr0
 have HE:=hid hE
 have CI:=is_rd ⟨#[105,102]⟩ hr0
 by_cases hif:t.text=⟨#[105,102]⟩
 ·obtain⟨hE2,t',r',rfl⟩:=hE.more (Or.inr (by rw[hif];decide))
  have HE2:=hid hE2
  have HRes:=hid ((pp_if n op t (t'::r')).trans (if_pos hif))
  have HNs:=hid hns
  have HM:Hid (∀ts W,Ends ts→RdAt W0 R ts (op+1) W→(∀k,pp n 0 (op+1) ts≠.error (k,0))→Calls Tryz.prog 34 #[.pointer (some ⟨R,0,none⟩)] W (Post W0 R (op+1) W (pp n 0 (op+1) ts) (IsEx W.heap.size))):=fun ts W h1 h2 h3=>hpe (op+1) ts W h1 h2 h3
  have HFine:Hid t.fine:=hE.fine
  rw[decide_eq_true hif] at CI
  clear hpe hpl hE hrd hns hw0 hb0 hr0 hE2 hif
  generalize pp (n+1) 0 op (t::t'::r')=res at HRes HNs ⊢
  simp only[rp] at CI ⊢
  go_enter_defers Tryz.func34,Tryz.ntmps34
  go_wp2_with fail
  rw[HW0.out]
  refine CI.mono ?_
  rintro x1 u1 ⟨rfl,hb1⟩
  have HU1:=hid hb1
  have HRU:=hid (HR0.out.below hb1)
  clear CI hb1
  by_cases h200:op=200
  ·subst h200
   have CE:=noenter_rd HRU.out
   have HRes2:Hid (res=.error (t.place,61)):=HRes.out
   simp only[rp,bad] at CE
   go_wp2_with fail
   refine CE.mono ?_
   rintro x w1 ⟨rfl,hb1⟩
   have HB1:Hid _:=hb1
   clear CE hb1
   go_wp2_with fail
   show Post W0 R 200 w res (IsEx w.heap.size) (.panicked [{ v:=badVal t.place 61,recovered:=false }]) w1
   rw[HRes2.out]
   exact⟨((KeepsB.ofBelow HB0.out).trans (KeepsB.ofBelow HU1.out)).trans (KeepsB.ofBelow HB1.out),rfl,_,HRU.out.below HB1.out⟩
  ·have CE:=enter_rd HRU.out (by have:=HLe.out;omega)
   have HRes2:Hid (res=ifA n op t.place (t'::r')):=by rw[Hid,HRes.out,openT,if_neg h200];rfl
   clear HRes
   simp only[rp,tkVal,tkCells] at CE
   go_wp2_with fail
   refine CE.mono ?_
   rintro x v0 ⟨rfl,hr1,hk1⟩
   have HRV:=hid hr1
   have HKV:=hid ((KeepsB.ofBelow HU1.out).trans hk1)
   clear CE hr1 hk1
   have HNa : Hid (∀ k, pp n 0 (op + 1) (t' :: r') ≠ .error (k, 0)) := fun kk h => HNs.out kk (by rw [HRes2.out, ifA, h]; rfl)
   have Ca:=HM.out (t'::r') v0 HE2.out HRV.out HNa.out
   have HR1a : Hid (res = (pp n 0 (op + 1) (t' :: r')).then fun a t2 => ifT n op t.place a t2) := HRes2.out
   clear HNa
   generalize pp n 0 (op + 1) (t' :: r') = qa at Ca HR1a
   go_wp2_with fail
   refine Ca.mono ?_
   rintro x wa ⟨hk,hp⟩
   have HKE:=hid (HKV.out.trans hk)
   have HK1a:=hid hk
   clear Ca hk
   cases qa with
   | error er =>
    obtain⟨kk,ee⟩:=er
    obtain⟨rfl,t2,hr2⟩:=hp
    have HRE:Hid _:=hr2
    have HResE:Hid (res=.error (kk,ee)):=HR1a.out
    clear hr2
    go_wp2_with fail
    refine leaves_cons (f:=65) (args:=#[rp R]) (by simp) (by simp[go_sem,rp]) ?_
    refine(leave_d _ HRE.out).mono ?_
    rintro e u' wE ⟨rfl,rfl,hrE,hkE⟩
    show Post W0 R op w res (IsEx w.heap.size) (.panicked [{ v:=badVal kk ee,recovered:=false }]) wE
    rw[HResE.out]
    exact⟨(KeepsB.ofBelow HB0.out).trans (HKE.out.trans hkE),rfl,_,hrE⟩
   | ok pr =>
    obtain⟨ea,ta⟩:=pr
    obtain⟨⟨v,rfl,xa,rfl,rfl,hl,hg⟩,hr1,hE1⟩:=hp
    obtain⟨va,hwL⟩:=nw (wa.alloc (.cells xa.cells.toArray 27))
    have hbL:Below wa.heap.size wa va:=by rw[hwL];exact bal _
    obtain⟨Ba,hBa⟩:=nw (wa.heap.size)
    have HBBa:Hid (w.heap.size<Ba∧Ba≠R∧Ba<va.heap.size):=by
     have h1:=HRd.out
     have h2:=HKE.out.size
     have h3:=HS0.out
     have h4:va.heap.size=wa.heap.size+1:=by rw[hwL];simp
     exact⟨by omega,by omega,by omega⟩
    have HLa:Hid (Lies (fun k=>w.heap.size<k) va xa):=(hl.mono fun k h1 (h2:v0.heap.size≤k)=>show w.heap.size<k by have:=HKV.out.size;have:=HS0.out;omega).keep (KeepsQ.ofBelow hbL)
    have HGa:Hid xa.good:=hg
    have HKa:=hid (HKE.out.trans (KeepsB.ofBelow hbL))
    have HPa:=hid (HK1a.out.trans (KeepsB.ofBelow hbL))
    have HRLa:=hid (hr1.below hbL)
    have HEa:=hid hE1
    have HCa:Hid (∀j,j<6→va.cell? ⟨Ba,j,none⟩=xa.cells[j]?):=fun j _=>by rw[hwL];exact(World.cell?_alloc_at _ _ _ _ hBa).trans (by simp)
    have HResN:Hid (res=ifT n op t.place xa.bare ta):=HR1a.out
    obtain⟨ka,pa,na,ia,da,aa,ca,la⟩:=xa
    have HWL:Hid (wa.alloc (.cells #[.int .u8 ka,.int .i64 pa,.string na,.int .i64 ia,.int .i64 da,.slice aa la.length ca] 27)=va):=hwL.symm
    clear hl hg hr1 hE1 hwL hbL HR1a HKE HK1a
    simp only[Ex.val,Ex.cells]
    obtain⟨ut,rt,rfl⟩:=HEa.out.ne
    have Ct:=want_all ⟨#[116,104,101,110]⟩ (by decide) HRLa.out HEa.out
    have HR1t:Hid (res=(wantT ⟨#[116,104,101,110]⟩ (ut::rt)).then fun _ t3=>ifB n op t.place (Ex.bare ⟨ka,pa,na,ia,da,aa,ca,la⟩) t3):=HResN.out
    generalize wantT ⟨#[116,104,101,110]⟩ (ut::rt)=qt at Ct HR1t
    clear HResN
    simp only[rp] at Ct
    go_wp2_with fail
    rw[HWL.out]
    simp only[←hBa]
    clear hBa HWL
    refine Ct.mono ?_
    rintro x wt ⟨hk,hp⟩
    have HKE:=hid (HKa.out.trans hk)
    have HKt:=hid hk
    clear Ct hk
    cases qt with
    | error er =>
     obtain⟨kk,ee⟩:=er
     obtain⟨rfl,t2,hr2⟩:=hp
     have HRE:Hid _:=hr2
     have HResE:Hid (res=.error (kk,ee)):=HR1t.out
     clear hr2
     go_wp2_with fail
     refine leaves_cons (f:=65) (args:=#[rp R]) (by simp) (by simp[go_sem,rp]) ?_
     refine(leave_d _ HRE.out).mono ?_
     rintro e u' wE ⟨rfl,rfl,hrE,hkE⟩
     show Post W0 R op w res (IsEx w.heap.size) (.panicked [{ v:=badVal kk ee,recovered:=false }]) wE
     rw[HResE.out]
     exact⟨(KeepsB.ofBelow HB0.out).trans (HKE.out.trans hkE),rfl,_,hrE⟩
    | ok pr =>
     obtain⟨et,tt⟩:=pr
     obtain⟨⟨v,rfl,rfl⟩,hr1,hE1⟩:=hp
     have HRLt:=hid hr1
     have HEt:=hid hE1
     have HKWt:=hid (HKE.out)
     have HResN:Hid (res=ifB n op t.place (Ex.bare ⟨ka,pa,na,ia,da,aa,ca,la⟩) tt):=HR1t.out
     clear hr1 hE1 HR1t HKE
     have HNb:Hid (∀k,pp n 0 (op+1) (tt)≠.error (k,0)):=fun kk h=>HNs.out kk (by rw[HResN.out,ifB,h];rfl)
     have Cb:=HM.out (tt) wt HEt.out HRLt.out HNb.out
     have HR1b:Hid (res=(pp n 0 (op+1) (tt)).then fun b t4=>ifE n op t.place (Ex.bare ⟨ka,pa,na,ia,da,aa,ca,la⟩) b t4):=HResN.out
     clear HNb
     generalize pp n 0 (op+1) (tt)=qb at Cb HR1b
     go_wp2_with fail
     refine Cb.mono ?_
     rintro x wb ⟨hk,hp⟩
     have HKE:=hid (HKWt.out.trans hk)
     have HK1b:=hid hk
     clear Cb hk
     cases qb with
     | error er =>
      obtain⟨kk,ee⟩:=er
      obtain⟨rfl,t2,hr2⟩:=hp
      have HRE:Hid _:=hr2
      have HResE:Hid (res=.error (kk,ee)):=HR1b.out
      clear hr2
      go_wp2_with fail
      refine leaves_cons (f:=65) (args:=#[rp R]) (by simp) (by simp[go_sem,rp]) ?_
      refine(leave_d _ HRE.out).mono ?_
      rintro e u' wE ⟨rfl,rfl,hrE,hkE⟩
      show Post W0 R op w res (IsEx w.heap.size) (.panicked [{ v:=badVal kk ee,recovered:=false }]) wE
      rw[HResE.out]
      exact⟨(KeepsB.ofBelow HB0.out).trans (HKE.out.trans hkE),rfl,_,hrE⟩
     | ok pr =>
      obtain⟨eb,tb⟩:=pr
      obtain⟨⟨v,rfl,xb,rfl,rfl,hl,hg⟩,hr1,hE1⟩:=hp
      obtain⟨vb,hwL⟩:=nw (wb.alloc (.cells xb.cells.toArray 27))
      have hbL:Below wb.heap.size wb vb:=by rw[hwL];exact bal _
      obtain⟨Bb,hBb⟩:=nw (wb.heap.size)
      have HBBb:Hid (w.heap.size<Bb∧Bb≠R∧Bb<vb.heap.size):=by
       have h1:=HRd.out
       have h2:=HKE.out.size
       have h3:=HS0.out
       have h4:vb.heap.size=wb.heap.size+1:=by rw[hwL];simp
       exact⟨by omega,by omega,by omega⟩
      have HLb:Hid (Lies (fun k=>w.heap.size<k) vb xb):=(hl.mono fun k h1 (h2:wt.heap.size≤k)=>show w.heap.size<k by have:=HKWt.out.size;have:=HS0.out;omega).keep (KeepsQ.ofBelow hbL)
      have HGb:Hid xb.good:=hg
      have HKb:=hid (HKE.out.trans (KeepsB.ofBelow hbL))
      have HPb:=hid (HK1b.out.trans (KeepsB.ofBelow hbL))
      have HRLb:=hid (hr1.below hbL)
      have HEb:=hid hE1
      have HCb:Hid (∀j,j<6→vb.cell? ⟨Bb,j,none⟩=xb.cells[j]?):=fun j _=>by rw[hwL];exact(World.cell?_alloc_at _ _ _ _ hBb).trans (by simp)
      have HResN:Hid (res=ifE n op t.place (Ex.bare ⟨ka,pa,na,ia,da,aa,ca,la⟩) xb.bare tb):=HR1b.out
      obtain⟨kb,pb,nb,ib,db,ab,cb,lb⟩:=xb
      have HWL:Hid (wb.alloc (.cells #[.int .u8 kb,.int .i64 pb,.string nb,.int .i64 ib,.int .i64 db,.slice ab lb.length cb] 27)=vb):=hwL.symm
      clear hl hg hr1 hE1 hwL hbL HR1b HKE HK1b
      simp only[Ex.val,Ex.cells]
      obtain⟨uf,rf,rfl⟩:=HEb.out.ne
      have Cf:=want_all ⟨#[101,108,115,101]⟩ (by decide) HRLb.out HEb.out
      have HR1f:Hid (res=(wantT ⟨#[101,108,115,101]⟩ (uf::rf)).then fun _ t5=>ifC n op t.place (Ex.bare ⟨ka,pa,na,ia,da,aa,ca,la⟩) (Ex.bare ⟨kb,pb,nb,ib,db,ab,cb,lb⟩) t5):=HResN.out
      generalize wantT ⟨#[101,108,115,101]⟩ (uf::rf)=qf at Cf HR1f
      clear HResN
      simp only[rp] at Cf
      go_wp2_with fail
      rw[HWL.out]
      simp only[←hBb]
      clear hBb HWL
      refine Cf.mono ?_
      rintro x wf ⟨hk,hp⟩
      have HKE:=hid (HKb.out.trans hk)
      have HKf:=hid hk
      clear Cf hk
      cases qf with
      | error er =>
       obtain⟨kk,ee⟩:=er
       obtain⟨rfl,t2,hr2⟩:=hp
       have HRE:Hid _:=hr2
       have HResE:Hid (res=.error (kk,ee)):=HR1f.out
       clear hr2
       go_wp2_with fail
       refine leaves_cons (f:=65) (args:=#[rp R]) (by simp) (by simp[go_sem,rp]) ?_
       refine(leave_d _ HRE.out).mono ?_
       rintro e u' wE ⟨rfl,rfl,hrE,hkE⟩
       show Post W0 R op w res (IsEx w.heap.size) (.panicked [{ v:=badVal kk ee,recovered:=false }]) wE
       rw[HResE.out]
       exact⟨(KeepsB.ofBelow HB0.out).trans (HKE.out.trans hkE),rfl,_,hrE⟩
      | ok pr =>
       obtain⟨ef,tf⟩:=pr
       obtain⟨⟨v,rfl,rfl⟩,hr1,hE1⟩:=hp
       have HRLf:=hid hr1
       have HEf:=hid hE1
       have HKWf:=hid (HKE.out)
       have HResN:Hid (res=ifC n op t.place (Ex.bare ⟨ka,pa,na,ia,da,aa,ca,la⟩) (Ex.bare ⟨kb,pb,nb,ib,db,ab,cb,lb⟩) tf):=HR1f.out
       clear hr1 hE1 HR1f HKE
       have HNc:Hid (∀k,pp n 0 (op+1) (tf)≠.error (k,0)):=fun kk h=>HNs.out kk (by rw[HResN.out,ifC,h];rfl)
       have Cc:=HM.out (tf) wf HEf.out HRLf.out HNc.out
       have HR1c:Hid (res=(pp n 0 (op+1) (tf)).then fun c t6=>.ok (.mk 20 t.place ⟨#[]⟩ 0 0 none 0 [(Ex.bare ⟨ka,pa,na,ia,da,aa,ca,la⟩),(Ex.bare ⟨kb,pb,nb,ib,db,ab,cb,lb⟩),c],t6)):=HResN.out
       clear HNc
       generalize pp n 0 (op+1) (tf)=qc at Cc HR1c
       go_wp2_with fail
       refine Cc.mono ?_
       rintro x wc ⟨hk,hp⟩
       have HKE:=hid (HKWf.out.trans hk)
       have HK1c:=hid hk
       clear Cc hk
       cases qc with
       | error er =>
        obtain⟨kk,ee⟩:=er
        obtain⟨rfl,t2,hr2⟩:=hp
        have HRE:Hid _:=hr2
        have HResE:Hid (res=.error (kk,ee)):=HR1c.out
        clear hr2
        go_wp2_with fail
        refine leaves_cons (f:=65) (args:=#[rp R]) (by simp) (by simp[go_sem,rp]) ?_
        refine(leave_d _ HRE.out).mono ?_
        rintro e u' wE ⟨rfl,rfl,hrE,hkE⟩
        show Post W0 R op w res (IsEx w.heap.size) (.panicked [{ v:=badVal kk ee,recovered:=false }]) wE
        rw[HResE.out]
        exact⟨(KeepsB.ofBelow HB0.out).trans (HKE.out.trans hkE),rfl,_,hrE⟩
       | ok pr =>
        obtain⟨ec,tc⟩:=pr
        obtain⟨⟨v,rfl,xc,rfl,rfl,hl,hg⟩,hr1,hE1⟩:=hp
        have HLc:Hid (Lies (fun k=>w.heap.size<k) wc xc):=hl.mono fun k h1 (h2:wf.heap.size≤k)=>show w.heap.size<k by have:=HKWf.out.size;have:=HS0.out;omega
        have HGc:Hid xc.good:=hg
        have HKc:=hid (HKE.out)
        have HPc:=hid (HK1c.out)
        have HRLc:=hid hr1
        have HEc:=hid hE1
        have HResN:Hid (res=.ok (.mk 20 t.place ⟨#[]⟩ 0 0 none 0 [(Ex.bare ⟨ka,pa,na,ia,da,aa,ca,la⟩),(Ex.bare ⟨kb,pb,nb,ib,db,ab,cb,lb⟩),xc.bare],tc)):=HR1c.out
        obtain⟨kc,pc,nc,ic,dc,ac,cc,lc⟩:=xc
        clear hl hg hr1 hE1 HR1c HKE HK1c
        simp only[Ex.val,Ex.cells]
        have HO9:=hid (HO0.out.keep HKc.out HneR.out)
        have hown:=HO9.out
        have hlt:=hown.2
        have z0:wc.cell? ⟨w.heap.size,0,none⟩=some (.int .u8 0):=(hown.1 0).1
        have z1:wc.cell? ⟨w.heap.size,1,none⟩=some (.int .i64 0):=(hown.1 1).1
        have z2:wc.cell? ⟨w.heap.size,2,none⟩=some (.string ⟨#[]⟩):=(hown.1 2).1
        have z3:wc.cell? ⟨w.heap.size,3,none⟩=some (.int .i64 0):=(hown.1 3).1
        have z4:wc.cell? ⟨w.heap.size,4,none⟩=some (.int .i64 0):=(hown.1 4).1
        have z5:wc.cell? ⟨w.heap.size,5,none⟩=some (.slice none 0 0):=(hown.1 5).1
        have g0:=(hown.1 0).2
        have g1:=(hown.1 1).2
        have g2:=(hown.1 2).2
        have g3:=(hown.1 3).2
        have g4:=(hown.1 4).2
        have g5:=(hown.1 5).2
        have qa:∀j,j<6→wc.cell? ⟨Ba,j,none⟩=[.int .u8 ka,.int .i64 pa,.string na,.int .i64 ia,.int .i64 da,.slice aa la.length ca][j]?:=fun j hj=>((HKt.out.trans (HPb.out.trans (HKf.out.trans HPc.out))).cell HBBa.out.2.2 HBBa.out.2.1).1.trans (HCa.out j hj)
        have qb:∀j,j<6→wc.cell? ⟨Bb,j,none⟩=[.int .u8 kb,.int .i64 pb,.string nb,.int .i64 ib,.int .i64 db,.slice ab lb.length cb][j]?:=fun j hj=>((HKf.out.trans HPc.out).cell HBBb.out.2.2 HBBb.out.2.1).1.trans (HCb.out j hj)
        have ra0:wc.cell? ⟨Ba,0,none⟩=some (.int .u8 ka):=qa 0 (by omega)
        have ra1:wc.cell? ⟨Ba,1,none⟩=some (.int .i64 pa):=qa 1 (by omega)
        have ra2:wc.cell? ⟨Ba,2,none⟩=some (.string na):=qa 2 (by omega)
        have ra3:wc.cell? ⟨Ba,3,none⟩=some (.int .i64 ia):=qa 3 (by omega)
        have ra4:wc.cell? ⟨Ba,4,none⟩=some (.int .i64 da):=qa 4 (by omega)
        have ra5:wc.cell? ⟨Ba,5,none⟩=some (.slice aa la.length ca):=qa 5 (by omega)
        have rb0:wc.cell? ⟨Bb,0,none⟩=some (.int .u8 kb):=qb 0 (by omega)
        have rb1:wc.cell? ⟨Bb,1,none⟩=some (.int .i64 pb):=qb 1 (by omega)
        have rb2:wc.cell? ⟨Bb,2,none⟩=some (.string nb):=qb 2 (by omega)
        have rb3:wc.cell? ⟨Bb,3,none⟩=some (.int .i64 ib):=qb 3 (by omega)
        have rb4:wc.cell? ⟨Bb,4,none⟩=some (.int .i64 db):=qb 4 (by omega)
        have rb5:wc.cell? ⟨Bb,5,none⟩=some (.slice ab lb.length cb):=qb 5 (by omega)
        have hlA:=Nat.lt_of_lt_of_le HBBa.out.2.2 (HKt.out.trans (HPb.out.trans (HKf.out.trans HPc.out))).size
        have hlB:=Nat.lt_of_lt_of_le HBBb.out.2.2 (HKf.out.trans HPc.out).size
        have hs6:(set6 wc w.heap.size (.int .u8 20) (.int .i64 t.place) (.string ⟨#[]⟩) (.int .i64 0) (.int .i64 0) (.slice (some ⟨wc.heap.size+1,0,none⟩) 3 3)).heap.size=wc.heap.size:=set6_size _ _ _ _ _ _ _ _
        obtain⟨W3,hW3⟩:∃W3,W3=(set6 wc w.heap.size (.int .u8 20) (.int .i64 t.place) (.string ⟨#[]⟩) (.int .i64 0) (.int .i64 0) (.slice (some ⟨wc.heap.size+1,0,none⟩) 3 3)).alloc (.cells #[.int .u8 kc,.int .i64 pc,.string nc,.int .i64 ic,.int .i64 dc,.slice ac lc.length cc] 27):=⟨_,rfl⟩
        have h3s:W3.heap.size=wc.heap.size+1:=by rw[hW3];simp[hs6]
        obtain⟨W4,hW4⟩:=nw (W3.alloc (.cells #[.int .u8 ka,.int .i64 pa,.string na,.int .i64 ia,.int .i64 da,.slice aa la.length ca,.int .u8 kb,.int .i64 pb,.string nb,.int .i64 ib,.int .i64 db,.slice ab lb.length cb,.int .u8 kc,.int .i64 pc,.string nc,.int .i64 ic,.int .i64 dc,.slice ac lc.length cc] 27))
        have hb3:Below (set6 wc w.heap.size (.int .u8 20) (.int .i64 t.place) (.string ⟨#[]⟩) (.int .i64 0) (.int .i64 0) (.slice (some ⟨wc.heap.size+1,0,none⟩) 3 3)).heap.size (set6 wc w.heap.size (.int .u8 20) (.int .i64 t.place) (.string ⟨#[]⟩) (.int .i64 0) (.int .i64 0) (.slice (some ⟨wc.heap.size+1,0,none⟩) 3 3)) W3:=by rw[hW3];exact bal _
        have hb4:Below (set6 wc w.heap.size (.int .u8 20) (.int .i64 t.place) (.string ⟨#[]⟩) (.int .i64 0) (.int .i64 0) (.slice (some ⟨wc.heap.size+1,0,none⟩) 3 3)).heap.size (set6 wc w.heap.size (.int .u8 20) (.int .i64 t.place) (.string ⟨#[]⟩) (.int .i64 0) (.int .i64 0) (.slice (some ⟨wc.heap.size+1,0,none⟩) 3 3)) W4:=by rw[hW4];exact hb3.alloc hb3.size _
        have h4s:W4.heap.size=wc.heap.size+1+1:=by rw[hW4];simp[h3s]
        have HR4:Hid (RdAt W0 R tc (op+1) W4):=(set6_rd HRLc.out HRd.out.1 _ _ _ _ _ _).below hb4
        have HK4:Hid (KeepsB R w W4):=(set6_keepsB ((KeepsB.ofBelow HB0.out).trans HKc.out) (Nat.le_refl _) _ _ _ _ _ _).trans (KeepsB.ofBelow hb4)
        have kq:∀x,Lies (fun k=>w.heap.size<k) wc x→Lies (fun k=>w.heap.size<k) W4 x:=fun x hx=>(hx.keep (set6_keepsQ (fun h=>Nat.lt_irrefl _ h) _ _ _ _ _ _)).keep (KeepsQ.ofBelow hb4)
        have hRq:¬w.heap.size<R:=by have:=HRd.out.2;omega
        have HL4:Hid (Lies (fun k=>w.heap.size<k) W4 ⟨20,t.place,⟨#[]⟩,0,0,some ⟨wc.heap.size+1,0,none⟩,3,[⟨ka,pa,na,ia,da,aa,ca,la⟩,⟨kb,pb,nb,ib,db,ab,cb,lb⟩,⟨kc,pc,nc,ic,dc,ac,cc,lc⟩]⟩):=by
         refine lies_three (fun j hj=>?_) (show w.heap.size<wc.heap.size+1 by omega) (by omega) (kq _ ?_) (kq _ ?_) (kq _ HLc.out)
         ·rw[hW4];exact(World.cell?_alloc_at _ _ _ _ h3s.symm).trans (by simp[Ex.cells])
         ·exact HLa.out.keep (KeepsQ.ofB (HKt.out.trans (HPb.out.trans (HKf.out.trans HPc.out))) hRq)
         ·exact HLb.out.keep (KeepsQ.ofB (HKf.out.trans HPc.out) hRq)
        have HY:Hid (∀j,j<6→W4.cell? ⟨w.heap.size,j,none⟩=[.int .u8 20,.int .i64 t.place,.string ⟨#[]⟩,.int .i64 0,.int .i64 0,.slice (some ⟨wc.heap.size+1,0,none⟩) 3 3][j]?):=fun j hj=>(hb4.cell (p:=⟨w.heap.size,j,none⟩) (by rw[hs6];exact hlt)).trans (set6_cell (l:=exZero) rfl (fun j _=>(HO9.out.1 j).1) _ _ _ _ _ _ j hj)
        have HlW:Hid (w.heap.size<W4.heap.size):=by rw[Hid,h4s];omega
        have HW4:Hid (((((((((wc.setCell ⟨w.heap.size,0,none⟩ (.int .u8 20)).setCell ⟨w.heap.size,1,none⟩ (.int .i64 t.place)).setCell ⟨w.heap.size,2,none⟩ (.string ⟨#[]⟩)).setCell ⟨w.heap.size,3,none⟩ (.int .i64 0)).setCell ⟨w.heap.size,4,none⟩ (.int .i64 0)).setCell ⟨w.heap.size,5,none⟩ (.slice (some ⟨wc.heap.size+1,0,none⟩) 3 3))).alloc (.cells #[.int .u8 kc,.int .i64 pc,.string nc,.int .i64 ic,.int .i64 dc,.slice ac lc.length cc] 27)).alloc (.cells #[.int .u8 ka,.int .i64 pa,.string na,.int .i64 ia,.int .i64 da,.slice aa la.length ca,.int .u8 kb,.int .i64 pb,.string nb,.int .i64 ib,.int .i64 db,.slice ab lb.length cb,.int .u8 kc,.int .i64 pc,.string nc,.int .i64 ic,.int .i64 dc,.slice ac lc.length cc] 27)=W4):=by rw[Hid,hW4,hW3];rfl
        clear hs6 hb3 hb4 h3s h4s kq hRq qa qb hW3 hW4 hown
        go_wp2_with fail
        rw[HW4.out]
        clear z0 z1 z2 z3 z4 z5 g0 g1 g2 g3 g4 g5 ra0 ra1 ra2 ra3 ra4 ra5 rb0 rb1 rb2 rb3 rb4 rb5
        refine leaves_cons (f:=65) (args:=#[rp R]) (by simp) (by simp[go_sem,rp]) ?_
        refine(leave_d _ HR4.out).mono ?_
        rintro e u' w5 ⟨rfl,rfl,hr5,hk5⟩
        have hy:∀j,j<6→w5.cell? ⟨w.heap.size,j,none⟩=[.int .u8 20,.int .i64 t.place,.string ⟨#[]⟩,.int .i64 0,.int .i64 0,.slice (some ⟨wc.heap.size+1,0,none⟩) 3 3][j]?:=fun j hj=>(hk5.cell HlW.out HneR.out).1.trans (HY.out j hj)
        have z0:w5.cell? ⟨w.heap.size,0,none⟩=some (.int .u8 20):=hy 0 (by omega)
        have z1:w5.cell? ⟨w.heap.size,1,none⟩=some (.int .i64 t.place):=hy 1 (by omega)
        have z2:w5.cell? ⟨w.heap.size,2,none⟩=some (.string ⟨#[]⟩):=hy 2 (by omega)
        have z3:w5.cell? ⟨w.heap.size,3,none⟩=some (.int .i64 0):=hy 3 (by omega)
        have z4:w5.cell? ⟨w.heap.size,4,none⟩=some (.int .i64 0):=hy 4 (by omega)
        have z5:w5.cell? ⟨w.heap.size,5,none⟩=some (.slice (some ⟨wc.heap.size+1,0,none⟩) 3 3):=hy 5 (by omega)
        have HPost:Hid (Post W0 R op w res (IsEx w.heap.size) (.returned (.agg #[.int .u8 20,.int .i64 t.place,.string ⟨#[]⟩,.int .i64 0,.int .i64 0,.slice (some ⟨wc.heap.size+1,0,none⟩) 3 3])) w5):=by
         rw[Hid,HResN.out]
         refine⟨HK4.out.trans hk5,⟨_,rfl,⟨20,t.place,⟨#[]⟩,0,0,some ⟨wc.heap.size+1,0,none⟩,3,[⟨ka,pa,na,ia,da,aa,ca,la⟩,⟨kb,pb,nb,ib,db,ab,cb,lb⟩,⟨kc,pc,nc,ic,dc,ac,cc,lc⟩]⟩,rfl,rfl,?_,?_⟩,hr5,HEc.out⟩
         ·exact(HL4.out.keep (KeepsQ.ofB hk5 (fun h=>by have:=HRd.out.2;omega))).mono fun k _ h=>Nat.le_of_lt h
         ·exact⟨⟨by decide,HFine.out.2.2,by decide +kernel,by decide,by decide,Nat.le_refl _,by decide +kernel⟩,HGa.out,HGb.out,HGc.out,trivial⟩
        clear hy hr5 hk5
        refine⟨_,by simp[results,Tryz.results34,go_sem, *];try rfl,HPost.out⟩
 ·have hres:=(pp_if n op t r).trans (if_neg hif)
  rw[hres] at hns ⊢
  have HA:Hid (∀W,RdAt W0 R (t::r) op W→Calls Tryz.prog 63 #[rp R] W (Post W0 R op W (pp n 1 op (t::r)) (IsEx W.heap.size))):=fun W hW=>hpl op (t::r) W hE hW hns
  rw[decide_eq_false hif] at CI
  clear hpe hpl hE hrd hns hw0 hb0 hr0 hres hif
  generalize pp n 1 op (t::r)=res at HA ⊢
  simp only[rp] at CI HA ⊢
  go_enter_defers Tryz.func34,Tryz.ntmps34
  go_wp2_with fail
  rw[HW0.out]
  refine CI.mono ?_
  rintro x1 u1 ⟨rfl,hb1⟩
  have HBN1:=hid (HB0.out.trans (hb1.mono HB0.out.size))
  have HON1:=hid (HO0.out.keep (R:=R) (KeepsB.ofBelow hb1) HneR.out)
  have HRN1:=hid (HR0.out.below hb1)
  clear CI hb1
  have CC:=HA.out u1 HRN1.out
  go_wp2_with fail
  refine CC.mono ?_
  rintro x v1 ⟨hk,hp⟩
  have HK1:=hid ((KeepsB.ofBelow HBN1.out).trans hk)
  have HK0:=hid hk
  clear CC hk
  cases res with
  | error er =>
   obtain⟨kk,ee⟩:=er
   obtain⟨rfl,t2,hr2⟩:=hp
   have HR2:Hid _:=hr2
   clear hr2
   go_wp2_with fail
   show Post W0 R op w (.error (kk,ee)) (IsEx w.heap.size) (.panicked [{ v:=badVal kk ee,recovered:=false }]) v1
   exact⟨HK1.out,rfl,t2,HR2.out⟩
  | ok pr =>
   obtain⟨a1,t1⟩:=pr
   obtain⟨⟨v,rfl,xa,rfl,rfl,hl,hg⟩,hr1,hE1⟩:=hp
   have HP:Hid _:=post_ex HRd.out.1 HK1.out hr1 hE1 (hl.mono fun k _ (h:u1.heap.size≤k)=>show w.heap.size<k by have:=HON1.out.2;omega) hg
   have hown:=HON1.out.keep HK0.out HneR.out
   have HY:Hid _:=exStore_cell xa fun j=>(hown.1 j).1
   have hlt:=hown.2
   obtain⟨ka,pa,na,ia,da,aa,ca,la⟩:=xa
   obtain⟨W9,hW9⟩:=nw (exStore v1 w.heap.size ⟨ka,pa,na,ia,da,aa,ca,la⟩)
   rw[←hW9] at HP HY
   have HW9:Hid (((((((v1.setCell ⟨w.heap.size,0,none⟩ (.int .u8 ka)).setCell ⟨w.heap.size,1,none⟩ (.int .i64 pa)).setCell ⟨w.heap.size,2,none⟩ (.string na)).setCell ⟨w.heap.size,3,none⟩ (.int .i64 ia)).setCell ⟨w.heap.size,4,none⟩ (.int .i64 da)).setCell ⟨w.heap.size,5,none⟩ (.slice aa la.length ca))=W9):=hW9.symm
   have z0:v1.cell? ⟨w.heap.size,0,none⟩=some (.int .u8 0):=(hown.1 0).1
   have z1:v1.cell? ⟨w.heap.size,1,none⟩=some (.int .i64 0):=(hown.1 1).1
   have z2:v1.cell? ⟨w.heap.size,2,none⟩=some (.string ⟨#[]⟩):=(hown.1 2).1
   have z3:v1.cell? ⟨w.heap.size,3,none⟩=some (.int .i64 0):=(hown.1 3).1
   have z4:v1.cell? ⟨w.heap.size,4,none⟩=some (.int .i64 0):=(hown.1 4).1
   have z5:v1.cell? ⟨w.heap.size,5,none⟩=some (.slice none 0 0):=(hown.1 5).1
   have g0:=(hown.1 0).2
   have g1:=(hown.1 1).2
   have g2:=(hown.1 2).2
   have g3:=(hown.1 3).2
   have g4:=(hown.1 4).2
   have g5:=(hown.1 5).2
   clear hl hg hr1 hE1 hW9 hown
   simp only[Ex.val,Ex.cells]
   go_wp2_with fail
   rw[HW9.out]
   clear z0 z1 z2 z3 z4 z5
   have z0:W9.cell? ⟨w.heap.size,0,none⟩=some (.int .u8 ka):=HY.out 0 (by omega)
   have z1:W9.cell? ⟨w.heap.size,1,none⟩=some (.int .i64 pa):=HY.out 1 (by omega)
   have z2:W9.cell? ⟨w.heap.size,2,none⟩=some (.string na):=HY.out 2 (by omega)
   have z3:W9.cell? ⟨w.heap.size,3,none⟩=some (.int .i64 ia):=HY.out 3 (by omega)
   have z4:W9.cell? ⟨w.heap.size,4,none⟩=some (.int .i64 da):=HY.out 4 (by omega)
   have z5:W9.cell? ⟨w.heap.size,5,none⟩=some (.slice aa la.length ca):=HY.out 5 (by omega)
   refine⟨_,by simp[results,Tryz.results34,go_sem, *];try rfl,HP.out⟩
end Go.Proofs.YthbgnpkgglbhjaaGreatDoor
