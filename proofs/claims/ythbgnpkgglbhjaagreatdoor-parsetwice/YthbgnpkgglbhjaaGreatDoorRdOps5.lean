import Derived.Test.YthbgnpkgglbhjaaGreatDoorRdSp
import Derived.Test.YthbgnpkgglbhjaaGreatDoorRdOps3
namespace Go.Proofs.YthbgnpkgglbhjaaGreatDoor
open Go.RowKit Go.Shelf
open Ex.size Ex.depth Ex.lies Ex.bulk Ex.good Ex.bare
attribute [local go_sem] tk_f0 tk_f1 tk_f2 tk_f3
def IsS(_:Nat)(_:World)(s:ByteArray)(v:Value):Prop:=v=.string s∧s.size≤1000000
theorem name_all{W0:World}{R op:Nat}{ts:List Tok}{w:World}(hE:Ends ts)(h:RdAt W0 R ts op w):Calls Tryz.prog 92 #[rp R] w (Post W0 R op w (nameT ts) (IsS w.heap.size)):=by
 obtain⟨t,ts,rfl⟩:=hE.ne
 by_cases hn:t.kind=1
 ·obtain⟨hE2,t',r,rfl⟩:=hE.more (Or.inl (by rw[hn];decide))
  have e:nameT (t::t'::r)=.ok (t.text,t'::r):=if_pos hn
  rw[e]
  refine(name_rd h hn).mono ?_
  rintro x w' ⟨rfl,hr,hk⟩
  exact⟨hk,⟨_,rfl,rfl,hE.fine.1⟩,hr,hE2⟩
 ·have e:nameT (t::ts)=.error ((t.place:Nat),60):=if_neg hn
  rw[e]
  refine(noname_rd h hn).mono ?_
  rintro x w' ⟨rfl,hb⟩
  exact⟨KeepsB.ofBelow hb,rfl,_,h.below hb⟩
def Pm.fine(p:Pm):Prop:=p.nm.size≤1000000∧(Lit.int .u8 p.ty).wf=true∧(Lit.int .i64 p.pl).wf=true∧(Lit.int .i64 p.pd).wf=true∧(Lit.int .i64 p.st).wf=true∧(Lit.int .i64 p.du).wf=true
def IsP(_:Nat)(_:World)(p:Pm)(v:Value):Prop:=v=p.val∧p.fine
set_option maxRecDepth 100000 in
set_option maxHeartbeats 6400000 in
theorem param_rd{W0:World}{R op:Nat}{ts:List Tok}{w:World}(hE:Ends ts)(hrd:RdAt W0 R ts op w):Calls Tryz.prog 93 #[rp R] w (Post W0 R op w (paramT ts) (IsP w.heap.size)):=by
 have HRes:Hid (paramT ts=(nameT ts).then fun s t1=>(wantT ⟨#[58]⟩ t1).then fun _ t2=>if (hd t2).text=⟨#[98,111,111,108]⟩ then .ok ((⟨s,2,(hd ts).place,false,0,0,0⟩:Pm),t2.tail) else (wantT ⟨#[105,110,116]⟩ t2).then fun _ t3=>.ok ((⟨s,1,(hd ts).place,false,0,0,0⟩:Pm),t3)):=rfl
 generalize paramT ts=res at HRes ⊢
 obtain⟨w0,hw0⟩:∃w0:World,w0=w.alloc (.cells #[.string ⟨#[]⟩,.int .u8 0,.int .i64 0,.bool false,.int .i64 0,.int .i64 0,.int .i64 0] 62):=⟨_,rfl⟩
 have hb0:Below w.heap.size w w0:=by rw[hw0];exact bal _
 have HS0:Hid (w0.heap.size=w.heap.size+1):=by rw[Hid,hw0];simp
 have HO0:Hid (Blk w0 w.heap.size [.string ⟨#[]⟩,.int .u8 0,.int .i64 0,.bool false,.int .i64 0,.int .i64 0,.int .i64 0]):=by rw[Hid,hw0];exact Blk.made w _ _
 have HW0:=hid hw0.symm
 have HB0:=hid hb0
 have HRd:Hid (W0.heap.size≤w.heap.size∧R<w.heap.size):=⟨hrd.keeps.size,hrd.lt⟩
 have HneR:Hid (w.heap.size≠R):=by have:=hrd.lt;rw[Hid];omega
 have HE:=hid hE
 have HR0:=hid (hrd.below hb0)
 have HK0:Hid (KeepsB R w0 w0):=KeepsB.refl _ _
 clear hw0 hb0
 obtain⟨t,r,rfl⟩:=hE.ne
 have HFine:Hid t.fine:=hE.fine
 have CN:=next_rd HR0.out
 clear hE hrd
 simp only[rp,tkVal,tkCells] at CN ⊢
 go_enter Tryz.func93,Tryz.ntmps93
 go_wp2_with fail
 rw[HW0.out]
 refine CN.mono ?_
 rintro x w1 ⟨rfl,hb1⟩
 have HR1:=hid (HR0.out.below hb1)
 have HK1:Hid (KeepsB R w0 w1):=KeepsB.ofBelow hb1
 clear CN hb1
 have HRes1:Hid (res=(nameT (t::r)).then fun s t1=>(wantT ⟨#[58]⟩ t1).then fun _ t2=>if (hd t2).text=⟨#[98,111,111,108]⟩ then .ok ((⟨s,2,t.place,false,0,0,0⟩:Pm),t2.tail) else (wantT ⟨#[105,110,116]⟩ t2).then fun _ t3=>.ok ((⟨s,1,t.place,false,0,0,0⟩:Pm),t3)):=HRes.out
 clear HRes
 have CM:=name_all HE.out HR1.out
 generalize nameT (t::r)=q1 at CM HRes1
 simp only[rp] at CM
 go_wp2_with fail
 refine CM.mono ?_
 rintro x w2 ⟨hk,hp⟩
 have HKE:=hid (HK1.out.trans hk)
 have HSn:=hid hk
 clear CM hk
 cases q1 with
 | error er =>
  obtain⟨kk,ee⟩:=er
  obtain⟨rfl,t2,hr2⟩:=hp
  have HRE:Hid _:=hr2
  have HResE:Hid (res=.error (kk,ee)):=HRes1.out
  clear hr2
  go_wp2_with fail
  rw[HResE.out]
  exact⟨rfl,(KeepsB.ofBelow HB0.out).trans HKE.out,rfl,t2,HRE.out⟩
 | ok pr =>
  obtain⟨s,t1⟩:=pr
  obtain⟨⟨v,rfl,rfl,hsz⟩,hr1,hE1⟩:=hp
  have HSz:=hid hsz
  have HE1:=hid hE1
  obtain⟨w3,hw3⟩:=nw (w2.alloc (.cells #[.string s,.int .u8 0,.int .i64 t.place,.bool false,.int .i64 0,.int .i64 0,.int .i64 0] 62))
  obtain⟨B,hB⟩:=nw (w2.heap.size)
  have hb3:Below w2.heap.size w2 w3:=by rw[hw3];exact bal _
  have HRw3:=hid (hr1.below hb3)
  have HKw3:=hid (HKE.out.trans (KeepsB.ofBelow hb3))
  have HBB:Hid (w.heap.size<B∧B≠R∧B<w3.heap.size):=by
   have h1:=HRd.out
   have h2:=HKE.out.size
   have h3:=HS0.out
   have h4:w3.heap.size=w2.heap.size+1:=by rw[hw3];simp
   exact⟨by omega,by omega,by omega⟩
  have HDw3:Hid (Blk w3 B [.string s,.int .u8 0,.int .i64 t.place,.bool false,.int .i64 0,.int .i64 0,.int .i64 0]):=by rw[Hid,hw3,hB];exact Blk.made w2 _ _
  have HWw3:=hid hw3.symm
  clear hb3 hw3
  clear hr1 hE1 hsz HKE
  have HRes2:Hid (res=(wantT ⟨#[58]⟩ t1).then fun _ t2=>if (hd t2).text=⟨#[98,111,111,108]⟩ then .ok ((⟨s,2,t.place,false,0,0,0⟩:Pm),t2.tail) else (wantT ⟨#[105,110,116]⟩ t2).then fun _ t3=>.ok ((⟨s,1,t.place,false,0,0,0⟩:Pm),t3)):=HRes1.out
  clear HRes1
  obtain⟨u,r1,rfl⟩:=HE1.out.ne
  have CW:=want_all ⟨#[58]⟩ (by decide) HRw3.out HE1.out
  generalize wantT ⟨#[58]⟩ (u::r1)=q2 at CW HRes2
  simp only[rp] at CW
  go_wp2_with fail
  rw[HWw3.out]
  simp only[←hB]
  clear hB
  refine CW.mono ?_
  rintro x w4 ⟨hk,hp⟩
  have HKE:=hid (HKw3.out.trans hk)
  have HSc:=hid hk
  clear CW hk
  cases q2 with
  | error er =>
   obtain⟨kk,ee⟩:=er
   obtain⟨rfl,t2,hr2⟩:=hp
   have HRE:Hid _:=hr2
   have HResE:Hid (res=.error (kk,ee)):=HRes2.out
   clear hr2
   go_wp2_with fail
   rw[HResE.out]
   exact⟨rfl,(KeepsB.ofBelow HB0.out).trans HKE.out,rfl,t2,HRE.out⟩
  | ok pr =>
   obtain⟨u0,t4⟩:=pr
   obtain⟨⟨v,rfl,rfl⟩,hr4,hE4⟩:=hp
   have HR4:=hid hr4
   have HE4:=hid hE4
   have HK4:=hid (HKE.out)
   have HD4:=hid (HDw3.out.keep HSc.out HBB.out.2.1)
   have HRes3:Hid (res=if (hd t4).text=⟨#[98,111,111,108]⟩ then .ok ((⟨s,2,t.place,false,0,0,0⟩:Pm),t4.tail) else (wantT ⟨#[105,110,116]⟩ t4).then fun _ t3=>.ok ((⟨s,1,t.place,false,0,0,0⟩:Pm),t3)):=HRes2.out
   clear HKE hr4 hE4 HRes2
   obtain⟨w5,hw3⟩:=nw (w4.setCell ⟨B,1,none⟩ (.int .u8 2))
   have e1:=HD4.out.get 1 rfl
   have k1:=HD4.out.2.1 1
   have hlB:=HD4.out.2.2
   have HDw5:Hid (Blk w5 B [.string s,.int .u8 2,.int .i64 t.place,.bool false,.int .i64 0,.int .i64 0,.int .i64 0]):=by rw[Hid,hw3];exact HD4.out.set (i:=1) (by simp) _
   have HRw5:Hid (RdAt W0 R t4 op w5):=by rw[Hid,hw3];exact HR4.out.other (by have:=HRd.out;have:=HBB.out;omega)
   have HKw5:Hid (KeepsB R w0 w5):=by rw[Hid,hw3];exact HK4.out.new (by have:=HS0.out;have:=HBB.out;omega)
   have HWw5:=hid hw3.symm
   clear hw3
   obtain⟨u2,r4,rfl⟩:=HE4.out.ne
   have CS:=skip_all ⟨#[98,111,111,108]⟩ (by decide) HRw5.out HE4.out
   simp only[rp] at CS
   by_cases hbt:u2.text=⟨#[98,111,111,108]⟩
   ·rw[if_pos hbt,decide_eq_true hbt] at CS
    have HRes4:Hid (res=.ok ((⟨s,2,t.place,false,0,0,0⟩:Pm),r4)):=by rw[Hid,HRes3.out];exact if_pos hbt
    clear hbt HRes3
    go_wp2_with fail
    rw[HWw5.out]
    refine CS.mono ?_
    rintro x w6 ⟨rfl,hk6,hr6,hE6⟩
    have HR6:=hid hr6
    have HE6:=hid hE6
    have HK6:=hid (HKw5.out.trans hk6)
    have HD6:=hid (HDw5.out.keep hk6 HBB.out.2.1)
    clear CS hk6 hr6 hE6 e1 k1 hlB
    have HO9:=hid (HO0.out.keep HK6.out HneR.out)
    have HD9:=hid (HD6.out)
    have z0:=HO9.out.get 0 rfl
    have z1:=HO9.out.get 1 rfl
    have z2:=HO9.out.get 2 rfl
    have z3:=HO9.out.get 3 rfl
    have z4:=HO9.out.get 4 rfl
    have z5:=HO9.out.get 5 rfl
    have z6:=HO9.out.get 6 rfl
    have g0:=HO9.out.2.1 0
    have g1:=HO9.out.2.1 1
    have g2:=HO9.out.2.1 2
    have g3:=HO9.out.2.1 3
    have g4:=HO9.out.2.1 4
    have g5:=HO9.out.2.1 5
    have g6:=HO9.out.2.1 6
    have d0:=HD9.out.get 0 rfl
    have d1:=HD9.out.get 1 rfl
    have d2:=HD9.out.get 2 rfl
    have d3:=HD9.out.get 3 rfl
    have d4:=HD9.out.get 4 rfl
    have d5:=HD9.out.get 5 rfl
    have d6:=HD9.out.get 6 rfl
    have hltw:=HO9.out.2.2
    have hltB:=HD9.out.2.2
    have hneB:=(Nat.ne_of_lt HBB.out.1).symm
    obtain⟨W9,hW9⟩:=nw (setFrom w6 w.heap.size 0 [.string s,.int .u8 2,.int .i64 t.place,.bool false,.int .i64 0,.int .i64 0,.int .i64 0])
    have HY:Hid (Blk W9 w.heap.size [.string s,.int .u8 2,.int .i64 t.place,.bool false,.int .i64 0,.int .i64 0,.int .i64 0]):=by rw[Hid,hW9];exact HO9.out.all _ rfl
    have HR10:Hid (RdAt W0 R r4 op W9):=by rw[Hid,hW9];exact setFrom_rd HR6.out HRd.out.1 _ _
    have HK10:Hid (KeepsB R w W9):=by rw[Hid,hW9];exact setFrom_keepsB ((KeepsB.ofBelow HB0.out).trans HK6.out) (Nat.le_refl _) _ _
    have HW9:Hid ((((((((w6.setCell ⟨w.heap.size,0,none⟩ (.string s)).setCell ⟨w.heap.size,1,none⟩ (.int .u8 2)).setCell ⟨w.heap.size,2,none⟩ (.int .i64 t.place)).setCell ⟨w.heap.size,3,none⟩ (.bool false)).setCell ⟨w.heap.size,4,none⟩ (.int .i64 0)).setCell ⟨w.heap.size,5,none⟩ (.int .i64 0)).setCell ⟨w.heap.size,6,none⟩ (.int .i64 0))=W9):=by rw[Hid,hW9];rfl
    have HP:Hid (IsP w.heap.size W9 ⟨s,2,t.place,false,0,0,0⟩ (Pm.val ⟨s,2,t.place,false,0,0,0⟩)):=⟨rfl,HSz.out,(by decide:(Lit.int .u8 2).wf=true),HFine.out.2.2,(by decide:(Lit.int .i64 0).wf=true),(by decide:(Lit.int .i64 0).wf=true),(by decide:(Lit.int .i64 0).wf=true)⟩
    clear hW9
    go_wp2_with fail
    rw[HW9.out]
    clear z0 g0 d0 z1 g1 d1 z2 g2 d2 z3 g3 d3 z4 g4 d4 z5 g5 d5 z6 g6 d6
    have z0:=HY.out.get 0 rfl
    have z1:=HY.out.get 1 rfl
    have z2:=HY.out.get 2 rfl
    have z3:=HY.out.get 3 rfl
    have z4:=HY.out.get 4 rfl
    have z5:=HY.out.get 5 rfl
    have z6:=HY.out.get 6 rfl
    refine bodyPost_ret (by simp[results,Tryz.results93,go_sem, *];try rfl) rfl ?_
    rw[HRes4.out]
    exact⟨HK10.out,⟨_,rfl,HP.out⟩,HR10.out,HE6.out⟩
   ·rw[if_neg hbt,decide_eq_false hbt] at CS
    have HRes4:Hid (res=(wantT ⟨#[105,110,116]⟩ (u2::r4)).then fun _ t3=>.ok ((⟨s,1,t.place,false,0,0,0⟩:Pm),t3)):=by rw[Hid,HRes3.out];exact if_neg hbt
    clear hbt HRes3
    go_wp2_with fail
    rw[HWw5.out]
    refine CS.mono ?_
    rintro x w6 ⟨rfl,hk6,hr6,hE6⟩
    have HR6:=hid hr6
    have HE6:=hid hE6
    have HK6:=hid (HKw5.out.trans hk6)
    have HD6:=hid (HDw5.out.keep hk6 HBB.out.2.1)
    clear CS hk6 hr6 hE6 e1 k1 hlB
    have CI:=want_all ⟨#[105,110,116]⟩ (by decide) HR6.out HE6.out
    generalize wantT ⟨#[105,110,116]⟩ (u2::r4)=q3 at CI HRes4
    simp only[rp] at CI
    go_wp2_with fail
    refine CI.mono ?_
    rintro x w7 ⟨hk,hp⟩
    have HKE:=hid (HK6.out.trans hk)
    have HSi:=hid hk
    clear CI hk
    cases q3 with
    | error er =>
     obtain⟨kk,ee⟩:=er
     obtain⟨rfl,t2,hr2⟩:=hp
     have HRE:Hid _:=hr2
     have HResE:Hid (res=.error (kk,ee)):=HRes4.out
     clear hr2
     go_wp2_with fail
     rw[HResE.out]
     exact⟨rfl,(KeepsB.ofBelow HB0.out).trans HKE.out,rfl,t2,HRE.out⟩
    | ok pr =>
     obtain⟨u3,t6⟩:=pr
     obtain⟨⟨v,rfl,rfl⟩,hr7,hE7⟩:=hp
     have HR7:=hid hr7
     have HE7:=hid hE7
     have HK7:=hid (HKE.out)
     have HD7:=hid (HD6.out.keep HSi.out HBB.out.2.1)
     have HRes5:Hid (res=.ok ((⟨s,1,t.place,false,0,0,0⟩:Pm),t6)):=HRes4.out
     clear HKE hr7 hE7 HRes4
     obtain⟨w8,hw3⟩:=nw (w7.setCell ⟨B,1,none⟩ (.int .u8 1))
     have e1:=HD7.out.get 1 rfl
     have k1:=HD7.out.2.1 1
     have hlB:=HD7.out.2.2
     have HDw8:Hid (Blk w8 B [.string s,.int .u8 1,.int .i64 t.place,.bool false,.int .i64 0,.int .i64 0,.int .i64 0]):=by rw[Hid,hw3];exact HD7.out.set (i:=1) (by simp) _
     have HRw8:Hid (RdAt W0 R t6 op w8):=by rw[Hid,hw3];exact HR7.out.other (by have:=HRd.out;have:=HBB.out;omega)
     have HKw8:Hid (KeepsB R w0 w8):=by rw[Hid,hw3];exact HK7.out.new (by have:=HS0.out;have:=HBB.out;omega)
     have HWw8:=hid hw3.symm
     clear hw3
     clear e1 k1 hlB
     have HOb:=hid (HO0.out.keep HK7.out HneR.out)
     have HO9:=hid (HO0.out.keep HKw8.out HneR.out)
     have z0:=HOb.out.get 0 rfl
     have z1:=HOb.out.get 1 rfl
     have z2:=HOb.out.get 2 rfl
     have z3:=HOb.out.get 3 rfl
     have z4:=HOb.out.get 4 rfl
     have z5:=HOb.out.get 5 rfl
     have z6:=HOb.out.get 6 rfl
     have g0:=HOb.out.2.1 0
     have g1:=HOb.out.2.1 1
     have g2:=HOb.out.2.1 2
     have g3:=HOb.out.2.1 3
     have g4:=HOb.out.2.1 4
     have g5:=HOb.out.2.1 5
     have g6:=HOb.out.2.1 6
     have d0:=HD7.out.get 0 rfl
     have d1:=HD7.out.get 1 rfl
     have d2:=HD7.out.get 2 rfl
     have d3:=HD7.out.get 3 rfl
     have d4:=HD7.out.get 4 rfl
     have d5:=HD7.out.get 5 rfl
     have d6:=HD7.out.get 6 rfl
     have k1:=HD7.out.2.1 1
     have hltw:=HOb.out.2.2
     have hltB:=HD7.out.2.2
     have hneB:=(Nat.ne_of_lt HBB.out.1).symm
     have hneB2:=Nat.ne_of_lt HBB.out.1
     obtain⟨W9,hW9⟩:=nw (setFrom w8 w.heap.size 0 [.string s,.int .u8 1,.int .i64 t.place,.bool false,.int .i64 0,.int .i64 0,.int .i64 0])
     have HY:Hid (Blk W9 w.heap.size [.string s,.int .u8 1,.int .i64 t.place,.bool false,.int .i64 0,.int .i64 0,.int .i64 0]):=by rw[Hid,hW9];exact HO9.out.all _ rfl
     have HR10:Hid (RdAt W0 R t6 op W9):=by rw[Hid,hW9];exact setFrom_rd HRw8.out HRd.out.1 _ _
     have HK10:Hid (KeepsB R w W9):=by rw[Hid,hW9];exact setFrom_keepsB ((KeepsB.ofBelow HB0.out).trans HKw8.out) (Nat.le_refl _) _ _
     have HW9:Hid (((((((((w7.setCell ⟨B,1,none⟩ (.int .u8 1)).setCell ⟨w.heap.size,0,none⟩ (.string s)).setCell ⟨w.heap.size,1,none⟩ (.int .u8 1)).setCell ⟨w.heap.size,2,none⟩ (.int .i64 t.place)).setCell ⟨w.heap.size,3,none⟩ (.bool false)).setCell ⟨w.heap.size,4,none⟩ (.int .i64 0)).setCell ⟨w.heap.size,5,none⟩ (.int .i64 0)).setCell ⟨w.heap.size,6,none⟩ (.int .i64 0))=W9):=by rw[Hid,hW9,←HWw8.out];rfl
     have HP:Hid (IsP w.heap.size W9 ⟨s,1,t.place,false,0,0,0⟩ (Pm.val ⟨s,1,t.place,false,0,0,0⟩)):=⟨rfl,HSz.out,(by decide:(Lit.int .u8 1).wf=true),HFine.out.2.2,(by decide:(Lit.int .i64 0).wf=true),(by decide:(Lit.int .i64 0).wf=true),(by decide:(Lit.int .i64 0).wf=true)⟩
     clear hW9
     go_wp2_with fail
     rw[HW9.out]
     clear z0 g0 d0 z1 g1 d1 z2 g2 d2 z3 g3 d3 z4 g4 d4 z5 g5 d5 z6 g6 d6
     have z0:=HY.out.get 0 rfl
     have z1:=HY.out.get 1 rfl
     have z2:=HY.out.get 2 rfl
     have z3:=HY.out.get 3 rfl
     have z4:=HY.out.get 4 rfl
     have z5:=HY.out.get 5 rfl
     have z6:=HY.out.get 6 rfl
     refine bodyPost_ret (by simp[results,Tryz.results93,go_sem, *];try rfl) rfl ?_
     rw[HRes5.out]
     exact⟨HK10.out,⟨_,rfl,HP.out⟩,HR10.out,HE7.out⟩
def IsN(_:Nat)(_:World)(a:Int)(v:Value):Prop:=v=.int .i64 a∧(Lit.int .i64 a).wf=true
theorem num_all{W0:World}{R op:Nat}{ts:List Tok}{w:World}(l:Int)(hE:Ends ts)(h:RdAt W0 R ts op w):Calls Tryz.prog 123 #[rp R,.int .i64 l] w (Post W0 R op w (numT l ts) (IsN w.heap.size)):=by
 obtain⟨t,ts,rfl⟩:=hE.ne
 by_cases hn:t.kind=2∧¬t.int<l
 ·obtain⟨hE2,t',r,rfl⟩:=hE.more (Or.inl (by rw[hn.1];decide))
  rw[numT_ok hn]
  refine(number_rd l h hn.1 hn.2).mono ?_
  rintro x w' ⟨rfl,hr,hk⟩
  exact⟨hk,⟨_,rfl,rfl,hE.fine.2.1⟩,hr,hE2⟩
 ·rw[numT_bad hn]
  refine(nonumber_rd l h hn).mono ?_
  rintro x w' ⟨rfl,hb⟩
  exact⟨KeepsB.ofBelow hb,rfl,_,h.below hb⟩
set_option maxRecDepth 100000 in
set_option maxHeartbeats 6400000 in
theorem out_rd{W0:World}{R op:Nat}{ts:List Tok}{w:World}(hE:Ends ts)(hrd:RdAt W0 R ts op w):Calls Tryz.prog 95 #[rp R] w (Post W0 R op w (outT ts) (IsP w.heap.size)):=by
 have HRes:Hid (outT ts=(paramT ts).then fun p t1=>if (hd t1).text=⟨#[100,117,101]⟩ then (numT 1 t1.tail).then fun a t2=>.ok ((⟨p.nm,p.ty,p.pl,p.rt,p.pd,p.st,a⟩:Pm),t2) else .ok (p,t1)):=rfl
 generalize outT ts=res at HRes ⊢
 obtain⟨w0,hw0⟩:∃w0:World,w0=w.alloc (.cells #[.string ⟨#[]⟩,.int .u8 0,.int .i64 0,.bool false,.int .i64 0,.int .i64 0,.int .i64 0] 62):=⟨_,rfl⟩
 have hb0:Below w.heap.size w w0:=by rw[hw0];exact bal _
 have HS0:Hid (w0.heap.size=w.heap.size+1):=by rw[Hid,hw0];simp
 have HO0:Hid (Blk w0 w.heap.size [.string ⟨#[]⟩,.int .u8 0,.int .i64 0,.bool false,.int .i64 0,.int .i64 0,.int .i64 0]):=by rw[Hid,hw0];exact Blk.made w _ _
 have HW0:=hid hw0.symm
 have HB0:=hid hb0
 have HRd:Hid (W0.heap.size≤w.heap.size∧R<w.heap.size):=⟨hrd.keeps.size,hrd.lt⟩
 have HneR:Hid (w.heap.size≠R):=by have:=hrd.lt;rw[Hid];omega
 have HE:=hid hE
 have HR0:=hid (hrd.below hb0)
 have HK0:Hid (KeepsB R w0 w0):=KeepsB.refl _ _
 clear hw0 hb0
 clear hE hrd
 have CM:=param_rd HE.out HR0.out
 generalize paramT ts=q1 at CM HRes
 simp only[rp] at CM ⊢
 go_enter Tryz.func95,Tryz.ntmps95
 go_wp2_with fail
 rw[HW0.out]
 refine CM.mono ?_
 rintro x w1 ⟨hk,hp⟩
 have HKE:=hid (HK0.out.trans hk)
 have HSn:=hid hk
 clear CM hk
 cases q1 with
 | error er =>
  obtain⟨kk,ee⟩:=er
  obtain⟨rfl,t2,hr2⟩:=hp
  have HRE:Hid _:=hr2
  have HResE:Hid (res=.error (kk,ee)):=HRes.out
  clear hr2
  go_wp2_with fail
  rw[HResE.out]
  exact⟨rfl,(KeepsB.ofBelow HB0.out).trans HKE.out,rfl,t2,HRE.out⟩
 | ok pr =>
  obtain⟨p,t1⟩:=pr
  obtain⟨⟨v,rfl,rfl,hfine⟩,hr1,hE1⟩:=hp
  obtain⟨nm,ty,pl,rt,pd,st,du⟩:=p
  have HFine:=hid hfine
  have HE1:=hid hE1
  obtain⟨w2,hw3⟩:=nw (w1.alloc (.cells #[.string nm,.int .u8 ty,.int .i64 pl,.bool rt,.int .i64 pd,.int .i64 st,.int .i64 du] 62))
  obtain⟨B,hB⟩:=nw (w1.heap.size)
  have hb3:Below w1.heap.size w1 w2:=by rw[hw3];exact bal _
  have HRw2:=hid (hr1.below hb3)
  have HKw2:=hid (HKE.out.trans (KeepsB.ofBelow hb3))
  have HBB:Hid (w.heap.size<B∧B≠R∧B<w2.heap.size):=by
   have h1:=HRd.out
   have h2:=HKE.out.size
   have h3:=HS0.out
   have h4:w2.heap.size=w1.heap.size+1:=by rw[hw3];simp
   exact⟨by omega,by omega,by omega⟩
  have HDw2:Hid (Blk w2 B [.string nm,.int .u8 ty,.int .i64 pl,.bool rt,.int .i64 pd,.int .i64 st,.int .i64 du]):=by rw[Hid,hw3,hB];exact Blk.made w1 _ _
  have HWw2:=hid hw3.symm
  clear hb3 hw3
  clear hr1 hE1 hfine HKE
  have HRes1:Hid (res=if (hd t1).text=⟨#[100,117,101]⟩ then (numT 1 t1.tail).then fun a t2=>.ok ((⟨(⟨nm,ty,pl,rt,pd,st,du⟩:Pm).nm,(⟨nm,ty,pl,rt,pd,st,du⟩:Pm).ty,(⟨nm,ty,pl,rt,pd,st,du⟩:Pm).pl,(⟨nm,ty,pl,rt,pd,st,du⟩:Pm).rt,(⟨nm,ty,pl,rt,pd,st,du⟩:Pm).pd,(⟨nm,ty,pl,rt,pd,st,du⟩:Pm).st,a⟩:Pm),t2) else .ok ((⟨nm,ty,pl,rt,pd,st,du⟩:Pm),t1)):=HRes.out
  clear HRes
  simp only[Pm.val,Pm.cells]
  obtain⟨u,r1,rfl⟩:=HE1.out.ne
  have CS:=skip_all ⟨#[100,117,101]⟩ (by decide) HRw2.out HE1.out
  simp only[rp] at CS
  by_cases hbt:u.text=⟨#[100,117,101]⟩
  ·rw[if_pos hbt,decide_eq_true hbt] at CS
   have HRes2:Hid (res=(numT 1 r1).then fun a t2=>.ok ((⟨nm,ty,pl,rt,pd,st,a⟩:Pm),t2)):=by rw[Hid,HRes1.out];exact if_pos hbt
   clear hbt HRes1
   go_wp2_with fail
   rw[HWw2.out]
   simp only[←hB]
   clear hB
   refine CS.mono ?_
   rintro x w6 ⟨rfl,hk6,hr6,hE6⟩
   have HR6:=hid hr6
   have HE6:=hid hE6
   have HK6:=hid (HKw2.out.trans hk6)
   have HD6:=hid (HDw2.out.keep hk6 HBB.out.2.1)
   clear CS hk6 hr6 hE6
   have CI:=num_all 1 HE6.out HR6.out
   generalize numT 1 r1=q3 at CI HRes2
   simp only[rp] at CI
   go_wp2_with fail
   refine CI.mono ?_
   rintro x w7 ⟨hk,hp⟩
   have HKE:=hid (HK6.out.trans hk)
   have HSi:=hid hk
   clear CI hk
   cases q3 with
   | error er =>
    obtain⟨kk,ee⟩:=er
    obtain⟨rfl,t2,hr2⟩:=hp
    have HRE:Hid _:=hr2
    have HResE:Hid (res=.error (kk,ee)):=HRes2.out
    clear hr2
    go_wp2_with fail
    rw[HResE.out]
    exact⟨rfl,(KeepsB.ofBelow HB0.out).trans HKE.out,rfl,t2,HRE.out⟩
   | ok pr =>
    obtain⟨a,t7⟩:=pr
    obtain⟨⟨v,rfl,rfl,hwf⟩,hr7,hE7⟩:=hp
    have HWf:=hid hwf
    have HR7:=hid hr7
    have HE7:=hid hE7
    have HK7:=hid (HKE.out)
    have HD7:=hid (HD6.out.keep HSi.out HBB.out.2.1)
    have HRes5:Hid (res=.ok ((⟨nm,ty,pl,rt,pd,st,a⟩:Pm),t7)):=HRes2.out
    clear HKE hr7 hE7 HRes2 hwf
    obtain⟨w8,hw3⟩:=nw (w7.setCell ⟨B,6,none⟩ (.int .i64 a))
    have e6:=HD7.out.get 6 rfl
    have k6:=HD7.out.2.1 6
    have hlB:=HD7.out.2.2
    have HDw8:Hid (Blk w8 B [.string nm,.int .u8 ty,.int .i64 pl,.bool rt,.int .i64 pd,.int .i64 st,.int .i64 a]):=by rw[Hid,hw3];exact HD7.out.set (i:=6) (by simp) _
    have HRw8:Hid (RdAt W0 R t7 op w8):=by rw[Hid,hw3];exact HR7.out.other (by have:=HRd.out;have:=HBB.out;omega)
    have HKw8:Hid (KeepsB R w0 w8):=by rw[Hid,hw3];exact HK7.out.new (by have:=HS0.out;have:=HBB.out;omega)
    have HWw8:=hid hw3.symm
    clear hw3
    clear e6 k6 hlB
    have HOb:=hid (HO0.out.keep HK7.out HneR.out)
    have HO9:=hid (HO0.out.keep HKw8.out HneR.out)
    have z0:=HOb.out.get 0 rfl
    have z1:=HOb.out.get 1 rfl
    have z2:=HOb.out.get 2 rfl
    have z3:=HOb.out.get 3 rfl
    have z4:=HOb.out.get 4 rfl
    have z5:=HOb.out.get 5 rfl
    have z6:=HOb.out.get 6 rfl
    have g0:=HOb.out.2.1 0
    have g1:=HOb.out.2.1 1
    have g2:=HOb.out.2.1 2
    have g3:=HOb.out.2.1 3
    have g4:=HOb.out.2.1 4
    have g5:=HOb.out.2.1 5
    have g6:=HOb.out.2.1 6
    have d0:=HD7.out.get 0 rfl
    have d1:=HD7.out.get 1 rfl
    have d2:=HD7.out.get 2 rfl
    have d3:=HD7.out.get 3 rfl
    have d4:=HD7.out.get 4 rfl
    have d5:=HD7.out.get 5 rfl
    have d6:=HD7.out.get 6 rfl
    have k6:=HD7.out.2.1 6
    have hltw:=HOb.out.2.2
    have hltB:=HD7.out.2.2
    have hneB:=(Nat.ne_of_lt HBB.out.1).symm
    have hneB2:=Nat.ne_of_lt HBB.out.1
    obtain⟨W9,hW9⟩:=nw (setFrom w8 w.heap.size 0 [.string nm,.int .u8 ty,.int .i64 pl,.bool rt,.int .i64 pd,.int .i64 st,.int .i64 a])
    have HY:Hid (Blk W9 w.heap.size [.string nm,.int .u8 ty,.int .i64 pl,.bool rt,.int .i64 pd,.int .i64 st,.int .i64 a]):=by rw[Hid,hW9];exact HO9.out.all _ rfl
    have HR10:Hid (RdAt W0 R t7 op W9):=by rw[Hid,hW9];exact setFrom_rd HRw8.out HRd.out.1 _ _
    have HK10:Hid (KeepsB R w W9):=by rw[Hid,hW9];exact setFrom_keepsB ((KeepsB.ofBelow HB0.out).trans HKw8.out) (Nat.le_refl _) _ _
    have HW9:Hid (((((((((w7.setCell ⟨B,6,none⟩ (.int .i64 a)).setCell ⟨w.heap.size,0,none⟩ (.string nm)).setCell ⟨w.heap.size,1,none⟩ (.int .u8 ty)).setCell ⟨w.heap.size,2,none⟩ (.int .i64 pl)).setCell ⟨w.heap.size,3,none⟩ (.bool rt)).setCell ⟨w.heap.size,4,none⟩ (.int .i64 pd)).setCell ⟨w.heap.size,5,none⟩ (.int .i64 st)).setCell ⟨w.heap.size,6,none⟩ (.int .i64 a))=W9):=by rw[Hid,hW9,←HWw8.out];rfl
    have HP:Hid (IsP w.heap.size W9 ⟨nm,ty,pl,rt,pd,st,a⟩ (Pm.val ⟨nm,ty,pl,rt,pd,st,a⟩)):=⟨rfl,HFine.out.1,HFine.out.2.1,HFine.out.2.2.1,HFine.out.2.2.2.1,HFine.out.2.2.2.2.1,HWf.out⟩
    clear hW9
    go_wp2_with fail
    rw[HW9.out]
    clear z0 g0 d0 z1 g1 d1 z2 g2 d2 z3 g3 d3 z4 g4 d4 z5 g5 d5 z6 g6 d6
    have z0:=HY.out.get 0 rfl
    have z1:=HY.out.get 1 rfl
    have z2:=HY.out.get 2 rfl
    have z3:=HY.out.get 3 rfl
    have z4:=HY.out.get 4 rfl
    have z5:=HY.out.get 5 rfl
    have z6:=HY.out.get 6 rfl
    refine bodyPost_ret (by simp[results,Tryz.results95,go_sem, *];try rfl) rfl ?_
    rw[HRes5.out]
    exact⟨HK10.out,⟨_,rfl,HP.out⟩,HR10.out,HE7.out⟩
  ·rw[if_neg hbt,decide_eq_false hbt] at CS
   have HRes2:Hid (res=.ok ((⟨nm,ty,pl,rt,pd,st,du⟩:Pm),u::r1)):=by rw[Hid,HRes1.out];exact if_neg hbt
   clear hbt HRes1
   go_wp2_with fail
   rw[HWw2.out]
   simp only[←hB]
   clear hB
   refine CS.mono ?_
   rintro x w6 ⟨rfl,hk6,hr6,hE6⟩
   have HR6:=hid hr6
   have HE6:=hid hE6
   have HK6:=hid (HKw2.out.trans hk6)
   have HD6:=hid (HDw2.out.keep hk6 HBB.out.2.1)
   clear CS hk6 hr6 hE6
   have HO9:=hid (HO0.out.keep HK6.out HneR.out)
   have HD9:=hid (HD6.out)
   have z0:=HO9.out.get 0 rfl
   have z1:=HO9.out.get 1 rfl
   have z2:=HO9.out.get 2 rfl
   have z3:=HO9.out.get 3 rfl
   have z4:=HO9.out.get 4 rfl
   have z5:=HO9.out.get 5 rfl
   have z6:=HO9.out.get 6 rfl
   have g0:=HO9.out.2.1 0
   have g1:=HO9.out.2.1 1
   have g2:=HO9.out.2.1 2
   have g3:=HO9.out.2.1 3
   have g4:=HO9.out.2.1 4
   have g5:=HO9.out.2.1 5
   have g6:=HO9.out.2.1 6
   have d0:=HD9.out.get 0 rfl
   have d1:=HD9.out.get 1 rfl
   have d2:=HD9.out.get 2 rfl
   have d3:=HD9.out.get 3 rfl
   have d4:=HD9.out.get 4 rfl
   have d5:=HD9.out.get 5 rfl
   have d6:=HD9.out.get 6 rfl
   have hltw:=HO9.out.2.2
   have hltB:=HD9.out.2.2
   have hneB:=(Nat.ne_of_lt HBB.out.1).symm
   obtain⟨W9,hW9⟩:=nw (setFrom w6 w.heap.size 0 [.string nm,.int .u8 ty,.int .i64 pl,.bool rt,.int .i64 pd,.int .i64 st,.int .i64 du])
   have HY:Hid (Blk W9 w.heap.size [.string nm,.int .u8 ty,.int .i64 pl,.bool rt,.int .i64 pd,.int .i64 st,.int .i64 du]):=by rw[Hid,hW9];exact HO9.out.all _ rfl
   have HR10:Hid (RdAt W0 R (u::r1) op W9):=by rw[Hid,hW9];exact setFrom_rd HR6.out HRd.out.1 _ _
   have HK10:Hid (KeepsB R w W9):=by rw[Hid,hW9];exact setFrom_keepsB ((KeepsB.ofBelow HB0.out).trans HK6.out) (Nat.le_refl _) _ _
   have HW9:Hid ((((((((w6.setCell ⟨w.heap.size,0,none⟩ (.string nm)).setCell ⟨w.heap.size,1,none⟩ (.int .u8 ty)).setCell ⟨w.heap.size,2,none⟩ (.int .i64 pl)).setCell ⟨w.heap.size,3,none⟩ (.bool rt)).setCell ⟨w.heap.size,4,none⟩ (.int .i64 pd)).setCell ⟨w.heap.size,5,none⟩ (.int .i64 st)).setCell ⟨w.heap.size,6,none⟩ (.int .i64 du))=W9):=by rw[Hid,hW9];rfl
   have HP:Hid (IsP w.heap.size W9 ⟨nm,ty,pl,rt,pd,st,du⟩ (Pm.val ⟨nm,ty,pl,rt,pd,st,du⟩)):=⟨rfl,HFine.out⟩
   clear hW9
   go_wp2_with fail
   rw[HW9.out]
   clear z0 g0 d0 z1 g1 d1 z2 g2 d2 z3 g3 d3 z4 g4 d4 z5 g5 d5 z6 g6 d6
   have z0:=HY.out.get 0 rfl
   have z1:=HY.out.get 1 rfl
   have z2:=HY.out.get 2 rfl
   have z3:=HY.out.get 3 rfl
   have z4:=HY.out.get 4 rfl
   have z5:=HY.out.get 5 rfl
   have z6:=HY.out.get 6 rfl
   refine bodyPost_ret (by simp[results,Tryz.results95,go_sem, *];try rfl) rfl ?_
   rw[HRes2.out]
   exact⟨HK10.out,⟨_,rfl,HP.out⟩,HR10.out,HE6.out⟩
set_option maxRecDepth 100000 in
set_option maxHeartbeats 6400000 in
theorem in_rd{W0:World}{R op:Nat}{ts:List Tok}{w:World}(hE:Ends ts)(hrd:RdAt W0 R ts op w):Calls Tryz.prog 94 #[rp R] w (Post W0 R op w (inT ts) (IsP w.heap.size)):=by
 have HRes:Hid (inT ts=(paramT ts).then fun p t1=>if (hd t1).text=⟨#[114,97,116,101]⟩ then (wantT ⟨#[40]⟩ t1.tail).then fun _ t2=>(numT 1 t2).then fun a t3=>(wantT ⟨#[44]⟩ t3).then fun _ t4=>(numT 0 t4).then fun b t5=>(wantT ⟨#[41]⟩ t5).then fun _ t6=>.ok ((⟨p.nm,p.ty,p.pl,true,a,b,p.du⟩:Pm),t6) else .ok (p,t1)):=rfl
 generalize inT ts=res at HRes ⊢
 obtain⟨w0,hw0⟩:∃w0:World,w0=w.alloc (.cells #[.string ⟨#[]⟩,.int .u8 0,.int .i64 0,.bool false,.int .i64 0,.int .i64 0,.int .i64 0] 62):=⟨_,rfl⟩
 have hb0:Below w.heap.size w w0:=by rw[hw0];exact bal _
 have HS0:Hid (w0.heap.size=w.heap.size+1):=by rw[Hid,hw0];simp
 have HO0:Hid (Blk w0 w.heap.size [.string ⟨#[]⟩,.int .u8 0,.int .i64 0,.bool false,.int .i64 0,.int .i64 0,.int .i64 0]):=by rw[Hid,hw0];exact Blk.made w _ _
 have HW0:=hid hw0.symm
 have HB0:=hid hb0
 have HRd:Hid (W0.heap.size≤w.heap.size∧R<w.heap.size):=⟨hrd.keeps.size,hrd.lt⟩
 have HneR:Hid (w.heap.size≠R):=by have:=hrd.lt;rw[Hid];omega
 have HE:=hid hE
 have HR0:=hid (hrd.below hb0)
 have HK0:Hid (KeepsB R w0 w0):=KeepsB.refl _ _
 clear hw0 hb0
 clear hE hrd
 have CM:=param_rd HE.out HR0.out
 generalize paramT ts=q1 at CM HRes
 simp only[rp] at CM ⊢
 go_enter Tryz.func94,Tryz.ntmps94
 go_wp2_with fail
 rw[HW0.out]
 refine CM.mono ?_
 rintro x w1 ⟨hk,hp⟩
 have HKE:=hid (HK0.out.trans hk)
 have HSn:=hid hk
 clear CM hk
 cases q1 with
 | error er =>
  obtain⟨kk,ee⟩:=er
  obtain⟨rfl,t2,hr2⟩:=hp
  have HRE:Hid _:=hr2
  have HResE:Hid (res=.error (kk,ee)):=HRes.out
  clear hr2
  go_wp2_with fail
  rw[HResE.out]
  exact⟨rfl,(KeepsB.ofBelow HB0.out).trans HKE.out,rfl,t2,HRE.out⟩
 | ok pr =>
  obtain⟨p,t1⟩:=pr
  obtain⟨⟨v,rfl,rfl,hfine⟩,hr1,hE1⟩:=hp
  obtain⟨nm,ty,pl,rt,pd,st,du⟩:=p
  have HFine:=hid hfine
  have HE1:=hid hE1
  obtain⟨w2,hw3⟩:=nw (w1.alloc (.cells #[.string nm,.int .u8 ty,.int .i64 pl,.bool rt,.int .i64 pd,.int .i64 st,.int .i64 du] 62))
  obtain⟨B,hB⟩:=nw (w1.heap.size)
  have hb3:Below w1.heap.size w1 w2:=by rw[hw3];exact bal _
  have HRw2:=hid (hr1.below hb3)
  have HKw2:=hid (HKE.out.trans (KeepsB.ofBelow hb3))
  have HBB:Hid (w.heap.size<B∧B≠R∧B<w2.heap.size):=by
   have h1:=HRd.out
   have h2:=HKE.out.size
   have h3:=HS0.out
   have h4:w2.heap.size=w1.heap.size+1:=by rw[hw3];simp
   exact⟨by omega,by omega,by omega⟩
  have HDw2:Hid (Blk w2 B [.string nm,.int .u8 ty,.int .i64 pl,.bool rt,.int .i64 pd,.int .i64 st,.int .i64 du]):=by rw[Hid,hw3,hB];exact Blk.made w1 _ _
  have HWw2:=hid hw3.symm
  clear hb3 hw3
  clear hr1 hE1 hfine HKE
  have HRes1:Hid (res=if (hd t1).text=⟨#[114,97,116,101]⟩ then (wantT ⟨#[40]⟩ t1.tail).then fun _ t2=>(numT 1 t2).then fun a t3=>(wantT ⟨#[44]⟩ t3).then fun _ t4=>(numT 0 t4).then fun b t5=>(wantT ⟨#[41]⟩ t5).then fun _ t6=>.ok ((⟨(⟨nm,ty,pl,rt,pd,st,du⟩:Pm).nm,(⟨nm,ty,pl,rt,pd,st,du⟩:Pm).ty,(⟨nm,ty,pl,rt,pd,st,du⟩:Pm).pl,true,a,b,(⟨nm,ty,pl,rt,pd,st,du⟩:Pm).du⟩:Pm),t6) else .ok ((⟨nm,ty,pl,rt,pd,st,du⟩:Pm),t1)):=HRes.out
  clear HRes
  simp only[Pm.val,Pm.cells]
  obtain⟨u,r1,rfl⟩:=HE1.out.ne
  have CS:=skip_all ⟨#[114,97,116,101]⟩ (by decide) HRw2.out HE1.out
  simp only[rp] at CS
  by_cases hbt:u.text=⟨#[114,97,116,101]⟩
  ·rw[if_pos hbt,decide_eq_true hbt] at CS
   have HRes2:Hid (res=(wantT ⟨#[40]⟩ r1).then fun _ t2=>(numT 1 t2).then fun a t3=>(wantT ⟨#[44]⟩ t3).then fun _ t4=>(numT 0 t4).then fun b t5=>(wantT ⟨#[41]⟩ t5).then fun _ t6=>.ok ((⟨nm,ty,pl,true,a,b,du⟩:Pm),t6)):=by rw[Hid,HRes1.out];exact if_pos hbt
   clear hbt HRes1
   go_wp2_with fail
   rw[HWw2.out]
   simp only[←hB]
   clear hB
   refine CS.mono ?_
   rintro x w6 ⟨rfl,hk6,hr6,hE6⟩
   have HRw6:=hid hr6
   have HEw6:=hid hE6
   have HKw6:=hid (HKw2.out.trans hk6)
   have HDw6:=hid (HDw2.out.keep hk6 HBB.out.2.1)
   clear CS hk6 hr6 hE6
   obtain⟨ug,rg,rfl⟩:=HEw6.out.ne
   have Cg:=want_all ⟨#[40]⟩ (by decide) HRw6.out HEw6.out
   have HResg:=hid (HRes2.out)
   clear HRes2
   generalize wantT ⟨#[40]⟩ (ug::rg)=qg at Cg HResg
   simp only[rp] at Cg
   go_wp2_with fail
   refine Cg.mono ?_
   rintro x x1 ⟨hk,hp⟩
   have HKE:=hid (HKw6.out.trans hk)
   have HSg:=hid hk
   clear Cg hk
   cases qg with
   | error er =>
    obtain⟨kk,ee⟩:=er
    obtain⟨rfl,t2,hr2⟩:=hp
    have HRE:Hid _:=hr2
    have HResE:Hid (res=.error (kk,ee)):=HResg.out
    clear hr2
    go_wp2_with fail
    rw[HResE.out]
    exact⟨rfl,(KeepsB.ofBelow HB0.out).trans HKE.out,rfl,t2,HRE.out⟩
   | ok pr =>
    obtain⟨zg,tg⟩:=pr
    obtain⟨⟨v,rfl,rfl⟩,hr9,hE9⟩:=hp
    have HRx1:=hid hr9
    have HEx1:=hid hE9
    have HKx1:=hid (HKE.out)
    have HDx1:=hid (HDw6.out.keep HSg.out HBB.out.2.1)
    have HResx1:Hid (res=(numT 1 tg).then fun a t3=>(wantT ⟨#[44]⟩ t3).then fun _ t4=>(numT 0 t4).then fun b t5=>(wantT ⟨#[41]⟩ t5).then fun _ t6=>.ok ((⟨nm,ty,pl,true,a,b,du⟩:Pm),t6)):=HResg.out
    clear HKE hr9 hE9 HResg
    have Ca:=num_all 1 HEx1.out HRx1.out
    have HResa:=hid (HResx1.out)
    clear HResx1
    generalize numT 1 tg=qa at Ca HResa
    simp only[rp] at Ca
    go_wp2_with fail
    refine Ca.mono ?_
    rintro x x2 ⟨hk,hp⟩
    have HKE:=hid (HKx1.out.trans hk)
    have HSa:=hid hk
    clear Ca hk
    cases qa with
    | error er =>
     obtain⟨kk,ee⟩:=er
     obtain⟨rfl,t2,hr2⟩:=hp
     have HRE:Hid _:=hr2
     have HResE:Hid (res=.error (kk,ee)):=HResa.out
     clear hr2
     go_wp2_with fail
     rw[HResE.out]
     exact⟨rfl,(KeepsB.ofBelow HB0.out).trans HKE.out,rfl,t2,HRE.out⟩
    | ok pr =>
     obtain⟨a,ta⟩:=pr
     obtain⟨⟨v,rfl,rfl,hwf⟩,hr9,hE9⟩:=hp
     have HWfa:=hid hwf
     have HRx2:=hid hr9
     have HEx2:=hid hE9
     have HKx2:=hid (HKE.out)
     have HDx2:=hid (HDx1.out.keep HSa.out HBB.out.2.1)
     have HResx2:Hid (res=(wantT ⟨#[44]⟩ ta).then fun _ t4=>(numT 0 t4).then fun b t5=>(wantT ⟨#[41]⟩ t5).then fun _ t6=>.ok ((⟨nm,ty,pl,true,a,b,du⟩:Pm),t6)):=HResa.out
     clear HKE hr9 hE9 HResa hwf
     obtain⟨x3,hw3⟩:=nw (x2.setCell ⟨B,3,none⟩ (.bool true))
     have e3:=HDx2.out.get 3 rfl
     have k3:=HDx2.out.2.1 3
     have hlB:=HDx2.out.2.2
     have HDx3:Hid (Blk x3 B [.string nm,.int .u8 ty,.int .i64 pl,.bool true,.int .i64 pd,.int .i64 st,.int .i64 du]):=by rw[Hid,hw3];exact HDx2.out.set (i:=3) (by simp) _
     have HRx3:Hid (RdAt W0 R ta op x3):=by rw[Hid,hw3];exact HRx2.out.other (by have:=HRd.out;have:=HBB.out;omega)
     have HKx3:Hid (KeepsB R w0 x3):=by rw[Hid,hw3];exact HKx2.out.new (by have:=HS0.out;have:=HBB.out;omega)
     have HWx3:=hid hw3.symm
     clear hw3
     obtain⟨x4,hw3⟩:=nw (x3.setCell ⟨B,4,none⟩ (.int .i64 a))
     have e4:=HDx2.out.get 4 rfl
     have k4:=HDx2.out.2.1 4
     have hlB:=HDx3.out.2.2
     have HDx4:Hid (Blk x4 B [.string nm,.int .u8 ty,.int .i64 pl,.bool true,.int .i64 a,.int .i64 st,.int .i64 du]):=by rw[Hid,hw3];exact HDx3.out.set (i:=4) (by simp) _
     have HRx4:Hid (RdAt W0 R ta op x4):=by rw[Hid,hw3];exact HRx3.out.other (by have:=HRd.out;have:=HBB.out;omega)
     have HKx4:Hid (KeepsB R w0 x4):=by rw[Hid,hw3];exact HKx3.out.new (by have:=HS0.out;have:=HBB.out;omega)
     have HWx4:=hid hw3.symm
     clear hw3
     have HW24:Hid ((x2.setCell ⟨B,3,none⟩ (.bool true)).setCell ⟨B,4,none⟩ (.int .i64 a)=x4):=by rw[Hid,←HWx4.out,←HWx3.out]
     obtain⟨uk,rk,rfl⟩:=HEx2.out.ne
     have Ck:=want_all ⟨#[44]⟩ (by decide) HRx4.out HEx2.out
     have HResk:=hid (HResx2.out)
     clear HResx2
     generalize wantT ⟨#[44]⟩ (uk::rk)=qk at Ck HResk
     simp only[rp] at Ck
     go_wp2_with fail
     rw[HW24.out]
     clear e3 k3 e4 k4 hlB
     refine Ck.mono ?_
     rintro x x5 ⟨hk,hp⟩
     have HKE:=hid (HKx4.out.trans hk)
     have HSk:=hid hk
     clear Ck hk
     cases qk with
     | error er =>
      obtain⟨kk,ee⟩:=er
      obtain⟨rfl,t2,hr2⟩:=hp
      have HRE:Hid _:=hr2
      have HResE:Hid (res=.error (kk,ee)):=HResk.out
      clear hr2
      go_wp2_with fail
      rw[HResE.out]
      exact⟨rfl,(KeepsB.ofBelow HB0.out).trans HKE.out,rfl,t2,HRE.out⟩
     | ok pr =>
      obtain⟨zk,tk⟩:=pr
      obtain⟨⟨v,rfl,rfl⟩,hr9,hE9⟩:=hp
      have HRx5:=hid hr9
      have HEx5:=hid hE9
      have HKx5:=hid (HKE.out)
      have HDx5:=hid (HDx4.out.keep HSk.out HBB.out.2.1)
      have HResx5:Hid (res=(numT 0 tk).then fun b t5=>(wantT ⟨#[41]⟩ t5).then fun _ t6=>.ok ((⟨nm,ty,pl,true,a,b,du⟩:Pm),t6)):=HResk.out
      clear HKE hr9 hE9 HResk
      have Cb:=num_all 0 HEx5.out HRx5.out
      have HResb:=hid (HResx5.out)
      clear HResx5
      generalize numT 0 tk=qb at Cb HResb
      simp only[rp] at Cb
      go_wp2_with fail
      refine Cb.mono ?_
      rintro x x6 ⟨hk,hp⟩
      have HKE:=hid (HKx5.out.trans hk)
      have HSb:=hid hk
      clear Cb hk
      cases qb with
      | error er =>
       obtain⟨kk,ee⟩:=er
       obtain⟨rfl,t2,hr2⟩:=hp
       have HRE:Hid _:=hr2
       have HResE:Hid (res=.error (kk,ee)):=HResb.out
       clear hr2
       go_wp2_with fail
       rw[HResE.out]
       exact⟨rfl,(KeepsB.ofBelow HB0.out).trans HKE.out,rfl,t2,HRE.out⟩
      | ok pr =>
       obtain⟨b,tb⟩:=pr
       obtain⟨⟨v,rfl,rfl,hwf⟩,hr9,hE9⟩:=hp
       have HWfb:=hid hwf
       have HRx6:=hid hr9
       have HEx6:=hid hE9
       have HKx6:=hid (HKE.out)
       have HDx6:=hid (HDx5.out.keep HSb.out HBB.out.2.1)
       have HResx6:Hid (res=(wantT ⟨#[41]⟩ tb).then fun _ t6=>.ok ((⟨nm,ty,pl,true,a,b,du⟩:Pm),t6)):=HResb.out
       clear HKE hr9 hE9 HResb hwf
       obtain⟨x7,hw3⟩:=nw (x6.setCell ⟨B,5,none⟩ (.int .i64 b))
       have e5:=HDx6.out.get 5 rfl
       have k5:=HDx6.out.2.1 5
       have hlB:=HDx6.out.2.2
       have HDx7:Hid (Blk x7 B [.string nm,.int .u8 ty,.int .i64 pl,.bool true,.int .i64 a,.int .i64 b,.int .i64 du]):=by rw[Hid,hw3];exact HDx6.out.set (i:=5) (by simp) _
       have HRx7:Hid (RdAt W0 R tb op x7):=by rw[Hid,hw3];exact HRx6.out.other (by have:=HRd.out;have:=HBB.out;omega)
       have HKx7:Hid (KeepsB R w0 x7):=by rw[Hid,hw3];exact HKx6.out.new (by have:=HS0.out;have:=HBB.out;omega)
       have HWx7:=hid hw3.symm
       clear hw3
       obtain⟨uc,rc,rfl⟩:=HEx6.out.ne
       have Cc:=want_all ⟨#[41]⟩ (by decide) HRx7.out HEx6.out
       have HResc:=hid (HResx6.out)
       clear HResx6
       generalize wantT ⟨#[41]⟩ (uc::rc)=qc at Cc HResc
       simp only[rp] at Cc
       go_wp2_with fail
       rw[HWx7.out]
       clear e5 k5 hlB
       refine Cc.mono ?_
       rintro x x8 ⟨hk,hp⟩
       have HKE:=hid (HKx7.out.trans hk)
       have HSc:=hid hk
       clear Cc hk
       cases qc with
       | error er =>
        obtain⟨kk,ee⟩:=er
        obtain⟨rfl,t2,hr2⟩:=hp
        have HRE:Hid _:=hr2
        have HResE:Hid (res=.error (kk,ee)):=HResc.out
        clear hr2
        go_wp2_with fail
        rw[HResE.out]
        exact⟨rfl,(KeepsB.ofBelow HB0.out).trans HKE.out,rfl,t2,HRE.out⟩
       | ok pr =>
        obtain⟨zc,tc⟩:=pr
        obtain⟨⟨v,rfl,rfl⟩,hr9,hE9⟩:=hp
        have HRx8:=hid hr9
        have HEx8:=hid hE9
        have HKx8:=hid (HKE.out)
        have HDx8:=hid (HDx7.out.keep HSc.out HBB.out.2.1)
        have HResx8:Hid (res=.ok ((⟨nm,ty,pl,true,a,b,du⟩:Pm),tc)):=HResc.out
        clear HKE hr9 hE9 HResc
        have HO9:=hid (HO0.out.keep HKx8.out HneR.out)
        have HD9:=hid (HDx8.out)
        have z0:=HO9.out.get 0 rfl
        have z1:=HO9.out.get 1 rfl
        have z2:=HO9.out.get 2 rfl
        have z3:=HO9.out.get 3 rfl
        have z4:=HO9.out.get 4 rfl
        have z5:=HO9.out.get 5 rfl
        have z6:=HO9.out.get 6 rfl
        have g0:=HO9.out.2.1 0
        have g1:=HO9.out.2.1 1
        have g2:=HO9.out.2.1 2
        have g3:=HO9.out.2.1 3
        have g4:=HO9.out.2.1 4
        have g5:=HO9.out.2.1 5
        have g6:=HO9.out.2.1 6
        have d0:=HD9.out.get 0 rfl
        have d1:=HD9.out.get 1 rfl
        have d2:=HD9.out.get 2 rfl
        have d3:=HD9.out.get 3 rfl
        have d4:=HD9.out.get 4 rfl
        have d5:=HD9.out.get 5 rfl
        have d6:=HD9.out.get 6 rfl
        have hltw:=HO9.out.2.2
        have hltB:=HD9.out.2.2
        have hneB:=(Nat.ne_of_lt HBB.out.1).symm
        obtain⟨W9,hW9⟩:=nw (setFrom x8 w.heap.size 0 [.string nm,.int .u8 ty,.int .i64 pl,.bool true,.int .i64 a,.int .i64 b,.int .i64 du])
        have HY:Hid (Blk W9 w.heap.size [.string nm,.int .u8 ty,.int .i64 pl,.bool true,.int .i64 a,.int .i64 b,.int .i64 du]):=by rw[Hid,hW9];exact HO9.out.all _ rfl
        have HR10:Hid (RdAt W0 R tc op W9):=by rw[Hid,hW9];exact setFrom_rd HRx8.out HRd.out.1 _ _
        have HK10:Hid (KeepsB R w W9):=by rw[Hid,hW9];exact setFrom_keepsB ((KeepsB.ofBelow HB0.out).trans HKx8.out) (Nat.le_refl _) _ _
        have HW9:Hid ((((((((x8.setCell ⟨w.heap.size,0,none⟩ (.string nm)).setCell ⟨w.heap.size,1,none⟩ (.int .u8 ty)).setCell ⟨w.heap.size,2,none⟩ (.int .i64 pl)).setCell ⟨w.heap.size,3,none⟩ (.bool true)).setCell ⟨w.heap.size,4,none⟩ (.int .i64 a)).setCell ⟨w.heap.size,5,none⟩ (.int .i64 b)).setCell ⟨w.heap.size,6,none⟩ (.int .i64 du))=W9):=by rw[Hid,hW9];rfl
        have HP:Hid (IsP w.heap.size W9 ⟨nm,ty,pl,true,a,b,du⟩ (Pm.val ⟨nm,ty,pl,true,a,b,du⟩)):=⟨rfl,HFine.out.1,HFine.out.2.1,HFine.out.2.2.1,HWfa.out,HWfb.out,HFine.out.2.2.2.2.2⟩
        clear hW9
        go_wp2_with fail
        rw[HW9.out]
        clear z0 g0 d0 z1 g1 d1 z2 g2 d2 z3 g3 d3 z4 g4 d4 z5 g5 d5 z6 g6 d6
        have z0:=HY.out.get 0 rfl
        have z1:=HY.out.get 1 rfl
        have z2:=HY.out.get 2 rfl
        have z3:=HY.out.get 3 rfl
        have z4:=HY.out.get 4 rfl
        have z5:=HY.out.get 5 rfl
        have z6:=HY.out.get 6 rfl
        refine bodyPost_ret (by simp[results,Tryz.results94,go_sem, *];try rfl) rfl ?_
        rw[HResx8.out]
        exact⟨HK10.out,⟨_,rfl,HP.out⟩,HR10.out,HEx8.out⟩
  ·rw[if_neg hbt,decide_eq_false hbt] at CS
   have HRes2:Hid (res=.ok ((⟨nm,ty,pl,rt,pd,st,du⟩:Pm),u::r1)):=by rw[Hid,HRes1.out];exact if_neg hbt
   clear hbt HRes1
   go_wp2_with fail
   rw[HWw2.out]
   simp only[←hB]
   clear hB
   refine CS.mono ?_
   rintro x w6 ⟨rfl,hk6,hr6,hE6⟩
   have HR6:=hid hr6
   have HE6:=hid hE6
   have HK6:=hid (HKw2.out.trans hk6)
   have HD6:=hid (HDw2.out.keep hk6 HBB.out.2.1)
   clear CS hk6 hr6 hE6
   have HO9:=hid (HO0.out.keep HK6.out HneR.out)
   have HD9:=hid (HD6.out)
   have z0:=HO9.out.get 0 rfl
   have z1:=HO9.out.get 1 rfl
   have z2:=HO9.out.get 2 rfl
   have z3:=HO9.out.get 3 rfl
   have z4:=HO9.out.get 4 rfl
   have z5:=HO9.out.get 5 rfl
   have z6:=HO9.out.get 6 rfl
   have g0:=HO9.out.2.1 0
   have g1:=HO9.out.2.1 1
   have g2:=HO9.out.2.1 2
   have g3:=HO9.out.2.1 3
   have g4:=HO9.out.2.1 4
   have g5:=HO9.out.2.1 5
   have g6:=HO9.out.2.1 6
   have d0:=HD9.out.get 0 rfl
   have d1:=HD9.out.get 1 rfl
   have d2:=HD9.out.get 2 rfl
   have d3:=HD9.out.get 3 rfl
   have d4:=HD9.out.get 4 rfl
   have d5:=HD9.out.get 5 rfl
   have d6:=HD9.out.get 6 rfl
   have hltw:=HO9.out.2.2
   have hltB:=HD9.out.2.2
   have hneB:=(Nat.ne_of_lt HBB.out.1).symm
   obtain⟨W9,hW9⟩:=nw (setFrom w6 w.heap.size 0 [.string nm,.int .u8 ty,.int .i64 pl,.bool rt,.int .i64 pd,.int .i64 st,.int .i64 du])
   have HY:Hid (Blk W9 w.heap.size [.string nm,.int .u8 ty,.int .i64 pl,.bool rt,.int .i64 pd,.int .i64 st,.int .i64 du]):=by rw[Hid,hW9];exact HO9.out.all _ rfl
   have HR10:Hid (RdAt W0 R (u::r1) op W9):=by rw[Hid,hW9];exact setFrom_rd HR6.out HRd.out.1 _ _
   have HK10:Hid (KeepsB R w W9):=by rw[Hid,hW9];exact setFrom_keepsB ((KeepsB.ofBelow HB0.out).trans HK6.out) (Nat.le_refl _) _ _
   have HW9:Hid ((((((((w6.setCell ⟨w.heap.size,0,none⟩ (.string nm)).setCell ⟨w.heap.size,1,none⟩ (.int .u8 ty)).setCell ⟨w.heap.size,2,none⟩ (.int .i64 pl)).setCell ⟨w.heap.size,3,none⟩ (.bool rt)).setCell ⟨w.heap.size,4,none⟩ (.int .i64 pd)).setCell ⟨w.heap.size,5,none⟩ (.int .i64 st)).setCell ⟨w.heap.size,6,none⟩ (.int .i64 du))=W9):=by rw[Hid,hW9];rfl
   have HP:Hid (IsP w.heap.size W9 ⟨nm,ty,pl,rt,pd,st,du⟩ (Pm.val ⟨nm,ty,pl,rt,pd,st,du⟩)):=⟨rfl,HFine.out⟩
   clear hW9
   go_wp2_with fail
   rw[HW9.out]
   clear z0 g0 d0 z1 g1 d1 z2 g2 d2 z3 g3 d3 z4 g4 d4 z5 g5 d5 z6 g6 d6
   have z0:=HY.out.get 0 rfl
   have z1:=HY.out.get 1 rfl
   have z2:=HY.out.get 2 rfl
   have z3:=HY.out.get 3 rfl
   have z4:=HY.out.get 4 rfl
   have z5:=HY.out.get 5 rfl
   have z6:=HY.out.get 6 rfl
   refine bodyPost_ret (by simp[results,Tryz.results94,go_sem, *];try rfl) rfl ?_
   rw[HRes2.out]
   exact⟨HK10.out,⟨_,rfl,HP.out⟩,HR10.out,HE6.out⟩
def eltP:Elt Pm Pm:=⟨Pm.cells,7,fun _=>rfl,fun p=>p,fun _ _ p=>p.fine,fun h _=>h,fun h _=>h⟩
theorem pm_one(x:Pm):∀u∈eltP.cells x,u.oneCell'=true:=by
 intro u hu
 have hu:u∈x.cells:=hu
 simp only[Pm.cells,List.mem_cons,List.not_mem_nil,or_false] at hu
 rcases hu with rfl|rfl|rfl|rfl|rfl|rfl|rfl<;>rfl
theorem text_one(x:ByteArray):∀u∈eltS.cells x,u.oneCell'=true:=by
 intro u hu
 have hu:u∈[Value.string x]:=hu
 rw[List.mem_singleton] at hu
 subst hu
 rfl
theorem Tryz.infoParamL:(Tryz.prog.info? 62).map (fun i=>(i.zero,i.size,i.bytes))=some (some (.agg #[.string ⟨#[]⟩,.int .u8 0,.int .i64 0,.bool false,.int .i64 0,.int .i64 0,.int .i64 0]),7,64):=by kernel_rfl
set_option maxRecDepth 100000 in
set_option maxHeartbeats 6400000 in
theorem listP_rd{W0:World}{R:Nat}(f:Nat)(hent:Enters Tryz.prog f)(part:Nat→List Tok→PR Pm)(hpart:Does W0 R f IsP part)(hlen:∀op ts e t2,part op ts=.ok (e,t2)→t2.length≤ts.length)(s:ByteArray)(hs:s≠⟨#[]⟩)(n op:Nat)(ts:List Tok)(w:World)(hE:Ends ts)(hrd:RdAt W0 R ts op w)(res:PR (List Pm))(hres:res=listT (part op) s n ts)(hns:∀k,res≠.error (k,0)) :
  Calls Tryz.prog 124 #[rp R,.string s,.func (.func f) #[rp R] #[]] w (Post W0 R op w res (IsRow eltP w.heap.size)):=by
 obtain⟨i0,hi,hz0',hz1,hz2⟩:=info_parts Tryz.infoParamL
 have HI:Hid _:=hi
 have HZ0:Hid _:=hz0'
 have HZ1:Hid _:=hz1
 have HZ2:Hid _:=hz2
 have HM:Hid (∀(ts:List Tok)(b:World),Ends ts→RdAt W0 R ts op b→(∀k,part op ts≠.error (k,0))→Calls Tryz.prog f #[.pointer (some ⟨R,0,none⟩)] b (Post W0 R op b (part op ts) (IsP b.heap.size))):=fun ts b h1 h2 h3=>hpart op ts b h1 h2 h3
 have HLen:Hid (∀ts e t2,part op ts=.ok (e,t2)→t2.length≤ts.length):=fun ts e t2 h=>hlen op ts e t2 h
 have HRes:Hid (res=(part op ts).then fun e ts1=>listL (part op) s n [e] ts1):=hres
 have HNs:=hid hns
 have HNs1:Hid (∀k,part op ts≠.error (k,0)):=fun k h=>hns k (by rw[HRes.out,h];rfl)
 have HRd:Hid (W0.heap.size≤w.heap.size∧R<w.heap.size):=⟨hrd.keeps.size,hrd.lt⟩
 have HR0:=hid hrd
 have HS:=hid hs
 have HFew:=hid (hE.few)
 have HLen1:Hid (∀e t2,part op ts=.ok (e,t2)→t2.length≤ts.length):=fun e t2 h=>hlen op ts e t2 h
 have hent':∀args W,(callFunc f args).run Tryz.prog W=.ok (.enter f args) W:=hent
 have C1:=HM.out ts w hE hrd HNs1.out
 clear hi hz0' hz1 hz2 hpart hlen hres hns hE hrd hs hent
 simp only[rp] at C1 ⊢
 go_enter Tryz.func124,Tryz.ntmps124
 go_wp2_with fail
 refine C1.mono ?_
 rintro x w1 ⟨hk,hp⟩
 have HK1:=hid hk
 clear C1 hk
 cases hpp:part op ts with
 | error er =>
  obtain⟨kk,ee⟩:=er
  rw[hpp] at hp HRes
  obtain⟨rfl,t2,hr2⟩:=hp
  have HR2:Hid _:=hr2
  have HRes2:Hid (res=.error (kk,ee)):=HRes.out
  clear hr2 hpp HRes
  go_wp2_with fail
  rw[HRes2.out]
  exact⟨rfl,HK1.out,rfl,t2,HR2.out⟩
 | ok pr =>
  obtain⟨a1,t1⟩:=pr
  have hl1:=HLen1.out a1 t1 hpp
  rw[hpp] at hp HRes
  obtain⟨⟨v,rfl,hv⟩,hr1,hE1⟩:=hp
  obtain⟨xa,hview,rfl,hlies⟩:∃x:Pm,eltP.view x=a1∧v=x.val∧x.fine:=⟨_,rfl,hv.1,hv.2⟩
  have HRes1:Hid (res=listL (part op) s n [a1] t1):=HRes.out
  obtain⟨wL,hwL⟩:=nw (w1.alloc (.cells (eltP.cells xa).toArray 62))
  have HI1:Hid (InL eltP R w.heap.size 62 w [xa] (.slice (some ⟨w1.heap.size,0,none⟩) 1 1) wL∧RdAt W0 R t1 op wL∧Ends t1∧listL (part op) s n ([xa].map eltP.view) t1=res∧[xa].length+t1.length≤100001∧0<[xa].length∧w.heap.size≤wL.heap.size):=by
   rw[hwL]
   refine⟨InL.first HK1.out HK1.out.size hlies,hr1.below (bal _),hE1,?_,?_,by simp,?_⟩
   ·rw[HRes1.out,←hview];rfl
   ·have:=HFew.out;simp only[lC,lN];omega
   ·have:=HK1.out.size;simp;omega
  obtain⟨nma,tya,pla,rta,pda,sta,dua⟩:=xa
  simp only[Pm.val,Pm.cells]
  have HWL:Hid (w1.alloc (.cells #[.string nma,.int .u8 tya,.int .i64 pla,.bool rta,.int .i64 pda,.int .i64 sta,.int .i64 dua] 62)=wL):=hwL.symm
  clear hlies hview hr1 hE1 hwL hpp HRes HRes1 hl1
  go_wp2_with fail
  rw[HWL.out]
  clear HWL
  go_loopw [7] (fun v wr=>∃(xs:List Pm)(ts':List Tok)(n':Nat),Hid (InL eltP R w.heap.size 62 w xs v wr∧RdAt W0 R ts' op wr∧Ends ts'∧listL (part op) s n' (xs.map eltP.view) ts'=res∧xs.length+ts'.length≤100001∧0<xs.length∧w.heap.size≤wr.heap.size)) (fun _ wr=>restOf R wr)
  case atStart=>exact⟨_,t1,n,HI1⟩
  case round =>
   obtain⟨xs,ts',n',HX⟩:=hrel
   obtain⟨hI,hr,hE,hch,hfew,hpos,hws⟩:=HX.out
   obtain⟨t,r,rfl⟩:=hE.ne
   rcases n' with _|n'
   ·exact absurd hch.symm (HNs.out 0)
   obtain⟨va,vc,rfl⟩:=hI.form
   have HI2:=hid hI
   have HPos:=hid hpos
   have HFw:Hid (xs.length+(r.length+1)≤100001):=by rw[Hid];simpa using hfew
   have HWs:=hid hws
   have HMeas:Hid (restOf R wr=r.length+1):=hr.rest
   have HRw:=hid hr
   have HEw:=hid hE
   have CS:=skip_all s HS.out hr hE
   by_cases hts:t.text=s
   ·have hch2:(part op r).then (fun e ts1=>listL (part op) s n' (xs.map eltP.view++[e]) ts1)=res:=by rw[←hch,listL];exact(if_pos hts).symm
    have HCh:Hid _:=hch2
    rw[if_pos hts,decide_eq_true hts] at CS
    clear hI hr hE hch hfew hpos hws HX hts hch2 HI1
    simp only[rp] at CS
    go_wp2_with fail
    refine CS.mono ?_
    rintro r2 w2 ⟨rfl,hk2,hr2,hE2⟩
    have HN2:Hid (∀k,part op r≠.error (k,0)):=fun k h=>HNs.out k (by rw[←HCh.out,h];rfl)
    have HR2:=hid hr2
    have HK2:=hid hk2
    have HE2:=hid hE2
    have HP:Hid (∀W,RdAt W0 R r op W→Calls Tryz.prog f #[.pointer (some ⟨R,0,none⟩)] W (Post W0 R op W (part op r) (IsP W.heap.size))):=fun W h=>HM.out r W HE2.out h HN2.out
    have C3:=HP.out w2 HR2.out
    clear CS hk2 hr2 hE2
    cases hpp:part op r with
    | error er =>
     obtain⟨kk,ee⟩:=er
     rw[hpp] at C3 HCh
     have HRes3:Hid (res=.error (kk,ee)):=HCh.out.symm
     clear hpp HCh
     go_wp2_with fail
     refine C3.mono ?_
     rintro r4 w3 ⟨hk3,rfl,t3,hr3⟩
     have HK3:=hid (HK2.out.trans hk3)
     have HR3:Hid _:=hr3
     clear C3 hk3 hr3
     go_wp2_with fail
     rw[HRes3.out]
     exact⟨rfl,HI2.out.keeps.trans HK3.out,rfl,t3,HR3.out⟩
    | ok pr =>
     obtain⟨a3,t3⟩:=pr
     have HL3:=hid (HLen.out r a3 t3 hpp)
     rw[hpp] at C3 HCh
     clear hpp
     go_wp2_with fail
     refine C3.mono ?_
     rintro r4 w3 ⟨hk3,⟨v3,rfl,hv⟩,hr3,hE3⟩
     obtain⟨xb,hview,rfl,hlies⟩:∃x:Pm,eltP.view x=a3∧v3=x.val∧x.fine:=⟨_,rfl,hv.1,hv.2⟩
     have HK3:=hid (HK2.out.trans hk3)
     have HI3:=hid (HI2.out.keep HK3.out HRd.out.2)
     have HR3:=hid hr3
     have HE3:=hid hE3
     have HLi:Hid (eltP.lies (fun k=>w.heap.size≤k∧some k≠(Value.slice va xs.length vc).ownBlock) w3 xb):=hlies
     have HW3:=hid (Nat.le_trans HWs.out HK3.out.size)
     have HC4:Hid (listL (part op) s n' ((xs++[xb]).map eltP.view) t3=res):=by rw[Hid,List.map_append,←HCh.out,←hview];rfl
     have HOwn:Hid ((w3.alloc (.cells (eltP.cells xb).toArray 62)).ownsRow w.heap.size 62 7 (.slice va xs.length vc) xs.length (flatOf eltP.cells xs)):=HI3.out.own.alloc _
     have hb1:xs.length+1≤maxLen:=by have:=HFw.out;unfold maxLen;omega
     have hb2:(xs.length+1)*64≤140737488355328:=by have:=HFw.out;omega
     have HB1:Hid _:=hb1
     have HB2:Hid _:=hb2
     have HWb:Hid (w.heap.size≤(w3.alloc (.cells (eltP.cells xb).toArray 62)).heap.size):=by have:=HW3.out;rw[Hid];simp;omega
     have HNw:Hid _:=news_at w3 (eltP.cells xb) 62
     have HOne:=hid (pm_one xb)
     clear C3 hk3 hr3 hE3 hlies hview hb1 hb2
     obtain⟨nmb,tyb,plb,rtb,pdb,stb,dub⟩:=xb
     simp only[Pm.val,Pm.cells]
     go_wp2_with (at_builtin;refine wpList_append_lies _ rfl _ _ 57 rfl w.heap.size 62 i0 _ 7 64 Tryz.underlying57 HI.out HZ0.out HZ1.out HZ2.out rfl (by decide) _ _ _ rfl HOwn.out ⟨w3.heap.size,0,none⟩ 1 1 (eltP.cells ⟨nmb,tyb,plb,rtb,pdb,stb,dub⟩) rfl rfl HNw.out HOne.out (by decide) HB1.out HB2.out HWb.out _ rfl ?_)
     intro g cap w5 hown hgr hat hlt5
     obtain⟨q1,q2,q3,q4⟩:=HI3.out.more ⟨nmb,tyb,plb,rtb,pdb,stb,dub⟩ HLi.out HRd.out.2 (Nat.le_refl _) HW3.out g cap hown hgr (hat.imp id fun h=>h.trans (by simp))
     have HI5:Hid _:=q1
     have HS5:=hid (Nat.le_trans HW3.out q2)
     have HR5:=hid (HR3.out.same (HR0.out.keeps.trans q3) q4)
     clear hown hgr hat hlt5 q1 q2 q3 q4
     go_wp2_with fail
     go_roundw
     case rel =>
      refine⟨xs++[⟨nmb,tyb,plb,rtb,pdb,stb,dub⟩],t3,n',HI5.out,HR5.out,HE3.out,HC4.out,?_,?_,HS5.out⟩
      ·have:=HFw.out;have:=HL3.out;simp only[List.length_append,List.length_cons,List.length_nil];omega
      ·simp
     case measure =>
      rw[HMeas.out]
      have:=HR5.out.rest
      have:=HL3.out
      omega
   ·have hres3:res=.ok (xs.map eltP.view,t::r):=by rw[←hch,listL];exact if_neg hts
    have HRes3:Hid _:=hres3
    have HDone:Hid (IsRow eltP w.heap.size wr (xs.map eltP.view) (.slice va xs.length vc)):=HI2.out.done HPos.out (by have:=HFw.out;omega)
    rw[if_neg hts,decide_eq_false hts] at CS
    clear hI hr hE hch hfew hpos hws HX hts hres3 HI1
    simp only[rp] at CS
    go_wp2_with fail
    refine CS.mono ?_
    rintro r2 w2 ⟨rfl,hk2,hr2,hE2⟩
    have HR2:=hid hr2
    have HK2:=hid hk2
    have HE2:=hid hE2
    clear CS hk2 hr2 hE2
    go_wp2_with fail
    go_ret
    rw[HRes3.out]
    exact⟨HI2.out.keeps.trans HK2.out,⟨_,rfl,HDone.out.keep (KeepsQ.ofB HK2.out fun h=>by have:=HRd.out.2;omega)⟩,HR2.out,HE2.out⟩
theorem Tryz.infoStringL:(Tryz.prog.info? 9).map (fun i=>(i.zero,i.size,i.bytes))=some (some (.string ⟨#[]⟩),1,16):=by kernel_rfl
set_option maxRecDepth 100000 in
set_option maxHeartbeats 6400000 in
theorem listS_rd{W0:World}{R:Nat}(f:Nat)(hent:Enters Tryz.prog f)(part:Nat→List Tok→PR ByteArray)(hpart:Does W0 R f IsS part)(hlen:∀op ts e t2,part op ts=.ok (e,t2)→t2.length≤ts.length)(s:ByteArray)(hs:s≠⟨#[]⟩)(n op:Nat)(ts:List Tok)(w:World)(hE:Ends ts)(hrd:RdAt W0 R ts op w)(res:PR (List ByteArray))(hres:res=listT (part op) s n ts)(hns:∀k,res≠.error (k,0)) :
  Calls Tryz.prog 125 #[rp R,.string s,.func (.func f) #[rp R] #[]] w (Post W0 R op w res (IsRow eltS w.heap.size)):=by
 obtain⟨i0,hi,hz0',hz1,hz2⟩:=info_parts Tryz.infoStringL
 have HI:Hid _:=hi
 have HZ0:Hid _:=hz0'
 have HZ1:Hid _:=hz1
 have HZ2:Hid _:=hz2
 have HM:Hid (∀(ts:List Tok)(b:World),Ends ts→RdAt W0 R ts op b→(∀k,part op ts≠.error (k,0))→Calls Tryz.prog f #[.pointer (some ⟨R,0,none⟩)] b (Post W0 R op b (part op ts) (IsS b.heap.size))):=fun ts b h1 h2 h3=>hpart op ts b h1 h2 h3
 have HLen:Hid (∀ts e t2,part op ts=.ok (e,t2)→t2.length≤ts.length):=fun ts e t2 h=>hlen op ts e t2 h
 have HRes:Hid (res=(part op ts).then fun e ts1=>listL (part op) s n [e] ts1):=hres
 have HNs:=hid hns
 have HNs1:Hid (∀k,part op ts≠.error (k,0)):=fun k h=>hns k (by rw[HRes.out,h];rfl)
 have HRd:Hid (W0.heap.size≤w.heap.size∧R<w.heap.size):=⟨hrd.keeps.size,hrd.lt⟩
 have HR0:=hid hrd
 have HS:=hid hs
 have HFew:=hid (hE.few)
 have HLen1:Hid (∀e t2,part op ts=.ok (e,t2)→t2.length≤ts.length):=fun e t2 h=>hlen op ts e t2 h
 have hent':∀args W,(callFunc f args).run Tryz.prog W=.ok (.enter f args) W:=hent
 have C1:=HM.out ts w hE hrd HNs1.out
 clear hi hz0' hz1 hz2 hpart hlen hres hns hE hrd hs hent
 simp only[rp] at C1 ⊢
 go_enter Tryz.func125,Tryz.ntmps125
 go_wp2_with fail
 refine C1.mono ?_
 rintro x w1 ⟨hk,hp⟩
 have HK1:=hid hk
 clear C1 hk
 cases hpp:part op ts with
 | error er =>
  obtain⟨kk,ee⟩:=er
  rw[hpp] at hp HRes
  obtain⟨rfl,t2,hr2⟩:=hp
  have HR2:Hid _:=hr2
  have HRes2:Hid (res=.error (kk,ee)):=HRes.out
  clear hr2 hpp HRes
  go_wp2_with fail
  rw[HRes2.out]
  exact⟨rfl,HK1.out,rfl,t2,HR2.out⟩
 | ok pr =>
  obtain⟨a1,t1⟩:=pr
  have hl1:=HLen1.out a1 t1 hpp
  rw[hpp] at hp HRes
  obtain⟨⟨v,rfl,hv⟩,hr1,hE1⟩:=hp
  obtain⟨xa,hview,rfl,hlies⟩:∃x:ByteArray,eltS.view x=a1∧v=Value.string x∧x.size≤1000000:=⟨_,rfl,hv.1,hv.2⟩
  have HRes1:Hid (res=listL (part op) s n [a1] t1):=HRes.out
  obtain⟨wL,hwL⟩:=nw (w1.alloc (.cells (eltS.cells xa).toArray 9))
  have HI1:Hid (InL eltS R w.heap.size 9 w [xa] (.slice (some ⟨w1.heap.size,0,none⟩) 1 1) wL∧RdAt W0 R t1 op wL∧Ends t1∧listL (part op) s n ([xa].map eltS.view) t1=res∧[xa].length+t1.length≤100001∧0<[xa].length∧w.heap.size≤wL.heap.size):=by
   rw[hwL]
   refine⟨InL.first HK1.out HK1.out.size hlies,hr1.below (bal _),hE1,?_,?_,by simp,?_⟩
   ·rw[HRes1.out,←hview];rfl
   ·have:=HFew.out;simp only[lC,lN];omega
   ·have:=HK1.out.size;simp;omega
  have HWL:Hid (w1.alloc (.cells #[.string xa] 9)=wL):=hwL.symm
  clear hlies hview hr1 hE1 hwL hpp HRes HRes1 hl1
  go_wp2_with fail
  rw[HWL.out]
  clear HWL
  go_loopw [7] (fun v wr=>∃(xs:List ByteArray)(ts':List Tok)(n':Nat),Hid (InL eltS R w.heap.size 9 w xs v wr∧RdAt W0 R ts' op wr∧Ends ts'∧listL (part op) s n' (xs.map eltS.view) ts'=res∧xs.length+ts'.length≤100001∧0<xs.length∧w.heap.size≤wr.heap.size)) (fun _ wr=>restOf R wr)
  case atStart=>exact⟨_,t1,n,HI1⟩
  case round =>
   obtain⟨xs,ts',n',HX⟩:=hrel
   obtain⟨hI,hr,hE,hch,hfew,hpos,hws⟩:=HX.out
   obtain⟨t,r,rfl⟩:=hE.ne
   rcases n' with _|n'
   ·exact absurd hch.symm (HNs.out 0)
   obtain⟨va,vc,rfl⟩:=hI.form
   have HI2:=hid hI
   have HPos:=hid hpos
   have HFw:Hid (xs.length+(r.length+1)≤100001):=by rw[Hid];simpa using hfew
   have HWs:=hid hws
   have HMeas:Hid (restOf R wr=r.length+1):=hr.rest
   have HRw:=hid hr
   have HEw:=hid hE
   have CS:=skip_all s HS.out hr hE
   by_cases hts:t.text=s
   ·have hch2:(part op r).then (fun e ts1=>listL (part op) s n' (xs.map eltS.view++[e]) ts1)=res:=by rw[←hch,listL];exact(if_pos hts).symm
    have HCh:Hid _:=hch2
    rw[if_pos hts,decide_eq_true hts] at CS
    clear hI hr hE hch hfew hpos hws HX hts hch2 HI1
    simp only[rp] at CS
    go_wp2_with fail
    refine CS.mono ?_
    rintro r2 w2 ⟨rfl,hk2,hr2,hE2⟩
    have HN2:Hid (∀k,part op r≠.error (k,0)):=fun k h=>HNs.out k (by rw[←HCh.out,h];rfl)
    have HR2:=hid hr2
    have HK2:=hid hk2
    have HE2:=hid hE2
    have HP:Hid (∀W,RdAt W0 R r op W→Calls Tryz.prog f #[.pointer (some ⟨R,0,none⟩)] W (Post W0 R op W (part op r) (IsS W.heap.size))):=fun W h=>HM.out r W HE2.out h HN2.out
    have C3:=HP.out w2 HR2.out
    clear CS hk2 hr2 hE2
    cases hpp:part op r with
    | error er =>
     obtain⟨kk,ee⟩:=er
     rw[hpp] at C3 HCh
     have HRes3:Hid (res=.error (kk,ee)):=HCh.out.symm
     clear hpp HCh
     go_wp2_with fail
     refine C3.mono ?_
     rintro r4 w3 ⟨hk3,rfl,t3,hr3⟩
     have HK3:=hid (HK2.out.trans hk3)
     have HR3:Hid _:=hr3
     clear C3 hk3 hr3
     go_wp2_with fail
     rw[HRes3.out]
     exact⟨rfl,HI2.out.keeps.trans HK3.out,rfl,t3,HR3.out⟩
    | ok pr =>
     obtain⟨a3,t3⟩:=pr
     have HL3:=hid (HLen.out r a3 t3 hpp)
     rw[hpp] at C3 HCh
     clear hpp
     go_wp2_with fail
     refine C3.mono ?_
     rintro r4 w3 ⟨hk3,⟨v3,rfl,hv⟩,hr3,hE3⟩
     obtain⟨xb,hview,rfl,hlies⟩:∃x:ByteArray,eltS.view x=a3∧v3=Value.string x∧x.size≤1000000:=⟨_,rfl,hv.1,hv.2⟩
     have HK3:=hid (HK2.out.trans hk3)
     have HI3:=hid (HI2.out.keep HK3.out HRd.out.2)
     have HR3:=hid hr3
     have HE3:=hid hE3
     have HLi:Hid (eltS.lies (fun k=>w.heap.size≤k∧some k≠(Value.slice va xs.length vc).ownBlock) w3 xb):=hlies
     have HW3:=hid (Nat.le_trans HWs.out HK3.out.size)
     have HC4:Hid (listL (part op) s n' ((xs++[xb]).map eltS.view) t3=res):=by rw[Hid,List.map_append,←HCh.out,←hview];rfl
     have HOwn:Hid ((w3.alloc (.cells (eltS.cells xb).toArray 9)).ownsRow w.heap.size 9 1 (.slice va xs.length vc) xs.length (flatOf eltS.cells xs)):=HI3.out.own.alloc _
     have hb1:xs.length+1≤maxLen:=by have:=HFw.out;unfold maxLen;omega
     have hb2:(xs.length+1)*16≤140737488355328:=by have:=HFw.out;omega
     have HB1:Hid _:=hb1
     have HB2:Hid _:=hb2
     have HWb:Hid (w.heap.size≤(w3.alloc (.cells (eltS.cells xb).toArray 9)).heap.size):=by have:=HW3.out;rw[Hid];simp;omega
     have HNw:Hid _:=news_at w3 (eltS.cells xb) 9
     have HOne:=hid (text_one xb)
     clear C3 hk3 hr3 hE3 hlies hview hb1 hb2
     go_wp2_with (at_builtin;refine wpList_append_lies _ rfl _ _ 51 rfl w.heap.size 9 i0 _ 1 16 Tryz.underlying51 HI.out HZ0.out HZ1.out HZ2.out rfl (by decide) _ _ _ rfl HOwn.out ⟨w3.heap.size,0,none⟩ 1 1 (eltS.cells xb) rfl rfl HNw.out HOne.out (by decide) HB1.out HB2.out HWb.out _ rfl ?_)
     intro g cap w5 hown hgr hat hlt5
     obtain⟨q1,q2,q3,q4⟩:=HI3.out.more xb HLi.out HRd.out.2 (Nat.le_refl _) HW3.out g cap hown hgr (hat.imp id fun h=>h.trans (by simp))
     have HI5:Hid _:=q1
     have HS5:=hid (Nat.le_trans HW3.out q2)
     have HR5:=hid (HR3.out.same (HR0.out.keeps.trans q3) q4)
     clear hown hgr hat hlt5 q1 q2 q3 q4
     go_wp2_with fail
     go_roundw
     case rel =>
      refine⟨xs++[xb],t3,n',HI5.out,HR5.out,HE3.out,HC4.out,?_,?_,HS5.out⟩
      ·have:=HFw.out;have:=HL3.out;simp only[List.length_append,List.length_cons,List.length_nil];omega
      ·simp
     case measure =>
      rw[HMeas.out]
      have:=HR5.out.rest
      have:=HL3.out
      omega
   ·have hres3:res=.ok (xs.map eltS.view,t::r):=by rw[←hch,listL];exact if_neg hts
    have HRes3:Hid _:=hres3
    have HDone:Hid (IsRow eltS w.heap.size wr (xs.map eltS.view) (.slice va xs.length vc)):=HI2.out.done HPos.out (by have:=HFw.out;omega)
    rw[if_neg hts,decide_eq_false hts] at CS
    clear hI hr hE hch hfew hpos hws HX hts hres3 HI1
    simp only[rp] at CS
    go_wp2_with fail
    refine CS.mono ?_
    rintro r2 w2 ⟨rfl,hk2,hr2,hE2⟩
    have HR2:=hid hr2
    have HK2:=hid hk2
    have HE2:=hid hE2
    clear CS hk2 hr2 hE2
    go_wp2_with fail
    go_ret
    rw[HRes3.out]
    exact⟨HI2.out.keeps.trans HK2.out,⟨_,rfl,HDone.out.keep (KeepsQ.ofB HK2.out fun h=>by have:=HRd.out.2;omega)⟩,HR2.out,HE2.out⟩
def IsRowN{α β:Type}(K:Elt α β)(base:Nat)(w:World)(l:List α)(v:Value):Prop:=IsRow K base w l v∨(l=[]∧v=.slice none 0 0)
set_option maxRecDepth 100000 in
set_option maxHeartbeats 6400000 in
theorem params_rd{W0:World}{R:Nat}(f:Nat)(hent:Enters Tryz.prog f)(one:List Tok→PR Pm)(hone:Does W0 R f IsP fun _=>one)(hshr:∀ts,Shr (one ts) ts)(n op:Nat)(ts:List Tok)(w:World)(hE:Ends ts)(hrd:RdAt W0 R ts op w)(res:PR (List Pm))(hres:res=paramsT one n ts)(hns:∀k,res≠.error (k,0)) :
  Calls Tryz.prog 96 #[rp R,.func (.func f) #[rp R] #[]] w (Post W0 R op w res (IsRowN eltP w.heap.size)):=by
 have HB0:Hid (Below w.heap.size w w):=Below.refl _ _
 have HK0:Hid (KeepsB R w w):=KeepsB.refl _ _
 have HE:=hid hE
 have HR0:=hid hrd
 have HRd:Hid (W0.heap.size≤w.heap.size∧R<w.heap.size):=⟨hrd.keeps.size,hrd.lt⟩
 have HNs:=hid hns
 have HL:Hid (∀(ts:List Tok)(W:World),Ends ts→RdAt W0 R ts op W→(∀k,listT one ⟨#[59]⟩ n ts≠.error (k,0))→Calls Tryz.prog 124 #[.pointer (some ⟨R,0,none⟩),.string ⟨#[59]⟩,.func (.func f) #[.pointer (some ⟨R,0,none⟩)] #[]] W (Post W0 R op W (listT one ⟨#[59]⟩ n ts) (IsRow eltP W.heap.size))):=fun ts W h1 h2 h3=>listP_rd f hent (fun _=>one) hone (fun _ ts e t2 h=>hshr ts e t2 h) ⟨#[59]⟩ (by decide) n op ts W h1 h2 _ rfl h3
 have HRes:Hid (res=(wantT ⟨#[40]⟩ ts).then fun _ t1=>if (hd t1).text=⟨#[41]⟩ then .ok ([],t1.tail) else (listT one ⟨#[59]⟩ n t1).then fun l t2=>(wantT ⟨#[41]⟩ t2).then fun _ t3=>.ok (l,t3)):=hres
 obtain⟨t,r,rfl⟩:=hE.ne
 have C1:=want_all ⟨#[40]⟩ (by decide) HR0.out HE.out
 clear hE hrd hres hns hent hone hshr
 generalize wantT ⟨#[40]⟩ (t::r)=q1 at C1 HRes
 simp only[rp] at C1 ⊢
 go_enter Tryz.func96,Tryz.ntmps96
 go_wp2_with fail
 refine C1.mono ?_
 rintro x w1 ⟨hk,hp⟩
 have HKE:=hid (HK0.out.trans hk)
 have HSo:=hid hk
 clear C1 hk
 cases q1 with
 | error er =>
  obtain⟨kk,ee⟩:=er
  obtain⟨rfl,t2,hr2⟩:=hp
  have HRE:Hid _:=hr2
  have HResE:Hid (res=.error (kk,ee)):=HRes.out
  clear hr2
  go_wp2_with fail
  rw[HResE.out]
  exact⟨rfl,(KeepsB.ofBelow HB0.out).trans HKE.out,rfl,t2,HRE.out⟩
 | ok pr =>
  obtain⟨z,t1⟩:=pr
  obtain⟨⟨v,rfl,rfl⟩,hr1,hE1⟩:=hp
  have HR1:=hid hr1
  have HE1:=hid hE1
  have HK1:=hid (HKE.out)
  have HRes1:Hid (res=if (hd t1).text=⟨#[41]⟩ then .ok ([],t1.tail) else (listT one ⟨#[59]⟩ n t1).then fun l t2=>(wantT ⟨#[41]⟩ t2).then fun _ t3=>.ok (l,t3)):=HRes.out
  clear HKE hr1 hE1 HRes
  obtain⟨u,r1,rfl⟩:=HE1.out.ne
  have CS:=skip_all ⟨#[41]⟩ (by decide) HR1.out HE1.out
  simp only[rp] at CS
  by_cases hbt:u.text=⟨#[41]⟩
  ·rw[if_pos hbt,decide_eq_true hbt] at CS
   have HRes2:Hid (res=.ok ([],r1)):=by rw[Hid,HRes1.out];exact if_pos hbt
   clear hbt HRes1
   go_wp2_with fail
   refine CS.mono ?_
   rintro x w2 ⟨rfl,hk2,hr2,hE2⟩
   have HK2:=hid (HK1.out.trans hk2)
   have HR2:=hid hr2
   have HE2:=hid hE2
   clear CS hk2 hr2 hE2
   go_wp2_with fail
   go_ret
   rw[HRes2.out]
   exact⟨HK2.out,⟨_,rfl,Or.inr ⟨rfl,rfl⟩⟩,HR2.out,HE2.out⟩
  ·rw[if_neg hbt,decide_eq_false hbt] at CS
   have HRes2:Hid (res=(listT one ⟨#[59]⟩ n (u::r1)).then fun l t2=>(wantT ⟨#[41]⟩ t2).then fun _ t3=>.ok (l,t3)):=by rw[Hid,HRes1.out];exact if_neg hbt
   have HN2:Hid (∀k,listT one ⟨#[59]⟩ n (u::r1)≠.error (k,0)):=fun k h=>HNs.out k (by rw[HRes2.out,h];rfl)
   clear hbt HRes1
   go_wp2_with fail
   refine CS.mono ?_
   rintro x w2 ⟨rfl,hk2,hr2,hE2⟩
   have HK2:=hid (HK1.out.trans hk2)
   have HR2:=hid hr2
   have HE2:=hid hE2
   clear CS hk2 hr2 hE2
   have C3:=HL.out (u::r1) w2 HE2.out HR2.out HN2.out
   clear HN2
   generalize listT one ⟨#[59]⟩ n (u::r1)=q3 at C3 HRes2
   go_wp2_with fail
   refine C3.mono ?_
   rintro x w3 ⟨hk,hp⟩
   have HKE:=hid (HK2.out.trans hk)
   have HSl:=hid hk
   clear C3 hk
   cases q3 with
   | error er =>
    obtain⟨kk,ee⟩:=er
    obtain⟨rfl,t2,hr2⟩:=hp
    have HRE:Hid _:=hr2
    have HResE:Hid (res=.error (kk,ee)):=HRes2.out
    clear hr2
    go_wp2_with fail
    rw[HResE.out]
    exact⟨rfl,(KeepsB.ofBelow HB0.out).trans HKE.out,rfl,t2,HRE.out⟩
   | ok pr =>
    obtain⟨l,t3⟩:=pr
    obtain⟨⟨v,rfl,hv⟩,hr3,hE3⟩:=hp
    have HV:=hid hv
    have HR3:=hid hr3
    have HE3:=hid hE3
    have HK3:=hid (HKE.out)
    have HRes3:Hid (res=(wantT ⟨#[41]⟩ t3).then fun _ t3=>.ok (l,t3)):=HRes2.out
    clear HKE hr3 hE3 HRes2 hv
    obtain⟨u3,r3,rfl⟩:=HE3.out.ne
    have C4:=want_all ⟨#[41]⟩ (by decide) HR3.out HE3.out
    generalize wantT ⟨#[41]⟩ (u3::r3)=q4 at C4 HRes3
    simp only[rp] at C4
    go_wp2_with fail
    refine C4.mono ?_
    rintro x w4 ⟨hk,hp⟩
    have HKE:=hid (HK3.out.trans hk)
    have HSc:=hid hk
    clear C4 hk
    cases q4 with
    | error er =>
     obtain⟨kk,ee⟩:=er
     obtain⟨rfl,t2,hr2⟩:=hp
     have HRE:Hid _:=hr2
     have HResE:Hid (res=.error (kk,ee)):=HRes3.out
     clear hr2
     go_wp2_with fail
     rw[HResE.out]
     exact⟨rfl,(KeepsB.ofBelow HB0.out).trans HKE.out,rfl,t2,HRE.out⟩
    | ok pr =>
     obtain⟨z4,t4⟩:=pr
     obtain⟨⟨v,rfl,rfl⟩,hr4,hE4⟩:=hp
     have HR4:=hid hr4
     have HE4:=hid hE4
     have HK4:=hid (HKE.out)
     have HRes4:Hid (res=.ok (l,t4)):=HRes3.out
     clear HKE hr4 hE4 HRes3
     go_wp2_with fail
     go_ret
     rw[HRes4.out]
     obtain⟨xs,g,cap,h1,h2,h3,h4,h4',h5,h6,h7,h8⟩:=HV.out.keep (KeepsQ.ofB HSc.out fun h=>by have:=HRd.out.2;have:=HK2.out.size;omega)
     exact⟨HK4.out,⟨_,rfl,Or.inl ⟨xs,g,cap,h1,h2,h3,h4,h4',Nat.le_trans HK2.out.size h5,h6,h7,fun x hx=>eltP.mono (h8 x hx) fun k _ h=>Nat.le_trans HK2.out.size h⟩⟩,HR4.out,HE4.out⟩
theorem InL.none{α β:Type}{K:Elt α β}{R base:Nat}{e:TypeId}{w w1:World}(hk:KeepsB R w w1):InL K R base e w [] (.slice none 0 0) w1:=⟨hk,⟨by simp[flatOf],Or.inl ⟨rfl,rfl⟩⟩,fun x hx=>by cases hx⟩
set_option maxRecDepth 100000 in
set_option maxHeartbeats 6400000 in
theorem vars_rd{W0:World}{R:Nat}(n op:Nat)(ts:List Tok)(w:World)(hE:Ends ts)(hrd:RdAt W0 R ts op w)(res:PR (List Pm))(hres:res=varsT n ts)(hns:∀k,res≠.error (k,0)) :
  Calls Tryz.prog 97 #[rp R] w (Post W0 R op w res (IsRowN eltP w.heap.size)):=by
 obtain⟨i0,hi,hz0',hz1,hz2⟩:=info_parts Tryz.infoParamL
 have HI:Hid _:=hi
 have HZ0:Hid _:=hz0'
 have HZ1:Hid _:=hz1
 have HZ2:Hid _:=hz2
 have HE:=hid hE
 have HR0:=hid hrd
 have HRd:Hid (W0.heap.size≤w.heap.size∧R<w.heap.size):=⟨hrd.keeps.size,hrd.lt⟩
 have HNs:=hid hns
 have HFew:=hid (hE.few)
 have HRes:Hid (res=if (hd ts).text=⟨#[118,97,114]⟩ then varsL n [] ts.tail else .ok ([],ts)):=hres
 obtain⟨t,r,rfl⟩:=hE.ne
 have CS:=skip_all ⟨#[118,97,114]⟩ (by decide) HR0.out HE.out
 clear hi hz0' hz1 hz2 hE hrd hres hns
 simp only[rp] at CS ⊢
 go_enter Tryz.func97,Tryz.ntmps97
 by_cases hbt:t.text=⟨#[118,97,114]⟩
 ·rw[if_pos hbt,decide_eq_true hbt] at CS
  have HRes2:Hid (res=varsL n [] r):=by rw[Hid,HRes.out];exact if_pos hbt
  clear hbt HRes
  go_wp2_with fail
  refine CS.mono ?_
  rintro x w1 ⟨rfl,hk1,hr1,hE1⟩
  have HI1:Hid (InL eltP R w.heap.size 62 w [] (.slice none 0 0) w1∧RdAt W0 R r op w1∧Ends r∧varsL n [] r=res∧([]:List Pm).length+r.length≤100001∧w.heap.size≤w1.heap.size):=⟨InL.none hk1,hr1,hE1,HRes2.out.symm,by have:=HFew.out;simp only[lC,lN] at this ⊢;omega,hk1.size⟩
  clear CS hk1 hr1 hE1 HRes2
  go_wp2_with fail
  go_loopw [3] (fun v wr=>∃(xs:List Pm)(ts':List Tok)(n':Nat),Hid (InL eltP R w.heap.size 62 w xs v wr∧RdAt W0 R ts' op wr∧Ends ts'∧varsL n' xs ts'=res∧xs.length+ts'.length≤100001∧w.heap.size≤wr.heap.size)) (fun _ wr=>restOf R wr)
  case atStart=>exact⟨[],r,n,HI1⟩
  case round =>
   obtain⟨xs,ts',n',HX⟩:=hrel
   obtain⟨hI,hr,hE,hch,hfew,hws⟩:=HX.out
   obtain⟨t,r,rfl⟩:=hE.ne
   rcases n' with _|n'
   ·exact absurd hch.symm (HNs.out 0)
   obtain⟨va,vc,rfl⟩:=hI.form
   have HI2:=hid hI
   have HFw:Hid (xs.length+(r.length+1)≤100001):=by rw[Hid];simpa using hfew
   have HWs:=hid hws
   have HMeas:Hid (restOf R wr=r.length+1):=hr.rest
   have HRw:=hid hr
   have HEw:=hid hE
   have HCh0:Hid ((if xs≠[]∧t.text=⟨#[108,101,116]⟩ then .ok (xs,t::r) else (paramT (t::r)).then fun p t1=>(wantT ⟨#[59]⟩ t1).then fun _ t2=>varsL n' (xs++[p]) t2)=res):=hch
   clear hI hr hE hch hfew hws HX HI1
   by_cases h0:xs.length=0
   ·have HCh:Hid ((paramT (t::r)).then (fun p t1=>(wantT ⟨#[59]⟩ t1).then fun _ t2=>varsL n' (xs++[p]) t2)=res):=by rw[Hid,←HCh0.out];exact(if_neg fun h=>h.1 (List.eq_nil_of_length_eq_zero h0)).symm
    have h0i:((xs.length:Nat):Int)=0:=by omega
    have HKr:Hid (KeepsB R wr wr):=KeepsB.refl _ _
    clear HCh0 h0
    go_wp2_with fail
    try rw[h0i]
    try go_wp2_with fail
    have C3:=param_rd HEw.out HRw.out
    cases hpp:paramT (t::r) with
    | error er =>
     obtain⟨kk,ee⟩:=er
     rw[hpp] at C3 HCh
     have HRes3:Hid (res=.error (kk,ee)):=HCh.out.symm
     clear hpp HCh
     simp only[rp] at C3
     go_wp2_with fail
     refine C3.mono ?_
     rintro r4 w3 ⟨hk3,rfl,t3,hr3⟩
     have HK3:=hid (HKr.out.trans hk3)
     have HR3:Hid _:=hr3
     clear C3 hk3 hr3
     go_wp2_with fail
     rw[HRes3.out]
     exact⟨rfl,HI2.out.keeps.trans HK3.out,rfl,t3,HR3.out⟩
    | ok pr =>
     obtain⟨a3,t3⟩:=pr
     have HL3:Hid (t3.length≤r.length+1):=by have:=param_shr _ _ _ hpp;rw[Hid];simpa using this
     rw[hpp] at C3 HCh
     clear hpp
     simp only[rp] at C3
     go_wp2_with fail
     refine C3.mono ?_
     rintro r4 w3 ⟨hk3,⟨v3,rfl,rfl,hfine⟩,hr3,hE3⟩
     have HK3:=hid (HKr.out.trans hk3)
     have HI3:=hid (HI2.out.keep HK3.out HRd.out.2)
     have HR3:=hid hr3
     have HE3:=hid hE3
     have HLi:=hid hfine
     have HW3:=hid (Nat.le_trans HWs.out HK3.out.size)
     have HC4:Hid ((wantT ⟨#[59]⟩ t3).then (fun _ t2=>varsL n' (xs++[a3]) t2)=res):=HCh.out
     have HOwn:Hid ((w3.alloc (.cells (eltP.cells a3).toArray 62)).ownsRow w.heap.size 62 7 (.slice va xs.length vc) xs.length (flatOf eltP.cells xs)):=HI3.out.own.alloc _
     have HB1:Hid (xs.length+1≤maxLen):=by have:=HFw.out;rw[Hid];unfold maxLen;omega
     have HB2:Hid ((xs.length+1)*64≤140737488355328):=by have:=HFw.out;rw[Hid];omega
     have HWb:Hid (w.heap.size≤(w3.alloc (.cells (eltP.cells a3).toArray 62)).heap.size):=by have:=HW3.out;rw[Hid];simp;omega
     have HNw:Hid _:=news_at w3 (eltP.cells a3) 62
     have HOne:=hid (pm_one a3)
     clear C3 hk3 hr3 hE3 hfine HCh
     obtain⟨nmb,tyb,plb,rtb,pdb,stb,dub⟩:=a3
     simp only[Pm.val,Pm.cells]
     go_wp2_with (at_builtin;refine wpList_append_lies _ rfl _ _ 57 rfl w.heap.size 62 i0 _ 7 64 Tryz.underlying57 HI.out HZ0.out HZ1.out HZ2.out rfl (by decide) _ _ _ rfl HOwn.out ⟨w3.heap.size,0,none⟩ 1 1 (eltP.cells ⟨nmb,tyb,plb,rtb,pdb,stb,dub⟩) rfl rfl HNw.out HOne.out (by decide) HB1.out HB2.out HWb.out _ rfl ?_)
     intro g cap w5 hown hgr hat hlt5
     obtain⟨q1,q2,q3,q4⟩:=HI3.out.more ⟨nmb,tyb,plb,rtb,pdb,stb,dub⟩ HLi.out HRd.out.2 (Nat.le_refl _) HW3.out g cap hown hgr (hat.imp id fun h=>h.trans (by simp))
     have HI5:Hid _:=q1
     have HS5:=hid (Nat.le_trans HW3.out q2)
     have HK5:=hid q3
     have HR5:=hid (HR3.out.same (HR0.out.keeps.trans q3) q4)
     clear hown hgr hat hlt5 q1 q2 q3 q4
     obtain⟨u6,r6,rfl⟩:=HE3.out.ne
     have C6:=want_all ⟨#[59]⟩ (by decide) HR5.out HE3.out
     cases hpp:wantT ⟨#[59]⟩ (u6::r6) with
     | error er =>
      obtain⟨kk,ee⟩:=er
      rw[hpp] at C6 HC4
      have HRes3:Hid (res=.error (kk,ee)):=HC4.out.symm
      clear hpp HC4
      simp only[rp] at C6
      go_wp2_with fail
      refine C6.mono ?_
      rintro r7 w7 ⟨hk7,rfl,t7,hr7⟩
      have HK7:=hid hk7
      have HR7:Hid _:=hr7
      clear C6 hk7 hr7
      go_wp2_with fail
      rw[HRes3.out]
      exact⟨rfl,HK5.out.trans HK7.out,rfl,t7,HR7.out⟩
     | ok pr =>
      obtain⟨z7,t7⟩:=pr
      have HL7:Hid (t7.length<(u6::r6).length):=wantT_lt (by decide) hpp
      rw[hpp] at C6 HC4
      clear hpp
      simp only[rp] at C6
      go_wp2_with fail
      refine C6.mono ?_
      rintro r7 w7 ⟨hk7,⟨v7,rfl,rfl⟩,hr7,hE7⟩
      have HI7:Hid _:=HI5.out.keep hk7 HRd.out.2
      have HS7:=hid (Nat.le_trans HS5.out hk7.size)
      have HR7:=hid hr7
      have HE7:=hid hE7
      have HC5:Hid (varsL n' (xs++[⟨nmb,tyb,plb,rtb,pdb,stb,dub⟩]) t7=res):=HC4.out
      clear C6 hk7 hr7 hE7
      go_wp2_with fail
      go_roundw
      case rel =>
       refine⟨xs++[⟨nmb,tyb,plb,rtb,pdb,stb,dub⟩],t7,n',HI7.out,HR7.out,HE7.out,HC5.out,?_,HS7.out⟩
       have:=HFw.out
       have:=HL3.out
       have:=HL7.out
       simp only[List.length_append,List.length_cons,List.length_nil] at *
       omega
      case measure =>
       rw[HMeas.out]
       have h1:=HR7.out.rest
       have h2:=HL3.out
       have h3:=HL7.out
       simp only[List.length_cons] at h2 h3
       omega
   ·have h0i:¬((xs.length:Nat):Int)=0:=by omega
    have h0b:=beq_false_of_ne h0i
    have HNe:Hid (0<xs.length):=by rw[Hid];omega
    have CI:=is_rd ⟨#[108,101,116]⟩ HRw.out
    simp only[rp] at CI
    by_cases hlet:t.text=⟨#[108,101,116]⟩
    ·rw[decide_eq_true hlet] at CI
     have HRes3:Hid (res=.ok (xs,t::r)):=by rw[Hid,←HCh0.out];exact if_pos ⟨fun e=>h0 (by rw[e];rfl),hlet⟩
     have HDone:Hid (IsRow eltP w.heap.size wr (xs.map eltP.view) (.slice va xs.length vc)):=HI2.out.done HNe.out (by have:=HFw.out;omega)
     clear hlet h0 HCh0
     go_wp2_with fail
     refine CI.mono ?_
     rintro r2 w2 ⟨rfl,hb2⟩
     have HK2:Hid (KeepsB R wr w2):=KeepsB.ofBelow hb2
     have HR2:=hid (HRw.out.below hb2)
     clear CI hb2
     go_wp2_with fail
     go_ret
     rw[HRes3.out]
     have hm:xs.map eltP.view=xs:=List.map_id xs
     have hd:=HDone.out
     rw[hm] at hd
     exact⟨HI2.out.keeps.trans HK2.out,⟨_,rfl,Or.inl (hd.keep (KeepsQ.ofB HK2.out fun h=>by have:=HRd.out.2;omega))⟩,HR2.out,HEw.out⟩
    ·rw[decide_eq_false hlet] at CI
     have HCh:Hid ((paramT (t::r)).then (fun p t1=>(wantT ⟨#[59]⟩ t1).then fun _ t2=>varsL n' (xs++[p]) t2)=res):=by rw[Hid,←HCh0.out];exact(if_neg fun h=>hlet h.2).symm
     clear hlet h0 HCh0
     go_wp2_with fail
     refine CI.mono ?_
     rintro r2 w2 ⟨rfl,hb2⟩
     have HKr:Hid (KeepsB R wr w2):=KeepsB.ofBelow hb2
     have HRw2:=hid (HRw.out.below hb2)
     clear CI hb2
     go_wp2_with fail
     have C3:=param_rd HEw.out HRw2.out
     cases hpp:paramT (t::r) with
     | error er =>
      obtain⟨kk,ee⟩:=er
      rw[hpp] at C3 HCh
      have HRes3:Hid (res=.error (kk,ee)):=HCh.out.symm
      clear hpp HCh
      simp only[rp] at C3
      go_wp2_with fail
      refine C3.mono ?_
      rintro r4 w3 ⟨hk3,rfl,t3,hr3⟩
      have HK3:=hid (HKr.out.trans hk3)
      have HR3:Hid _:=hr3
      clear C3 hk3 hr3
      go_wp2_with fail
      rw[HRes3.out]
      exact⟨rfl,HI2.out.keeps.trans HK3.out,rfl,t3,HR3.out⟩
     | ok pr =>
      obtain⟨a3,t3⟩:=pr
      have HL3:Hid (t3.length≤r.length+1):=by have:=param_shr _ _ _ hpp;rw[Hid];simpa using this
      rw[hpp] at C3 HCh
      clear hpp
      simp only[rp] at C3
      go_wp2_with fail
      refine C3.mono ?_
      rintro r4 w3 ⟨hk3,⟨v3,rfl,rfl,hfine⟩,hr3,hE3⟩
      have HK3:=hid (HKr.out.trans hk3)
      have HI3:=hid (HI2.out.keep HK3.out HRd.out.2)
      have HR3:=hid hr3
      have HE3:=hid hE3
      have HLi:=hid hfine
      have HW3:=hid (Nat.le_trans HWs.out HK3.out.size)
      have HC4:Hid ((wantT ⟨#[59]⟩ t3).then (fun _ t2=>varsL n' (xs++[a3]) t2)=res):=HCh.out
      have HOwn:Hid ((w3.alloc (.cells (eltP.cells a3).toArray 62)).ownsRow w.heap.size 62 7 (.slice va xs.length vc) xs.length (flatOf eltP.cells xs)):=HI3.out.own.alloc _
      have HB1:Hid (xs.length+1≤maxLen):=by have:=HFw.out;rw[Hid];unfold maxLen;omega
      have HB2:Hid ((xs.length+1)*64≤140737488355328):=by have:=HFw.out;rw[Hid];omega
      have HWb:Hid (w.heap.size≤(w3.alloc (.cells (eltP.cells a3).toArray 62)).heap.size):=by have:=HW3.out;rw[Hid];simp;omega
      have HNw:Hid _:=news_at w3 (eltP.cells a3) 62
      have HOne:=hid (pm_one a3)
      clear C3 hk3 hr3 hE3 hfine HCh
      obtain⟨nmb,tyb,plb,rtb,pdb,stb,dub⟩:=a3
      simp only[Pm.val,Pm.cells]
      go_wp2_with (at_builtin;refine wpList_append_lies _ rfl _ _ 57 rfl w.heap.size 62 i0 _ 7 64 Tryz.underlying57 HI.out HZ0.out HZ1.out HZ2.out rfl (by decide) _ _ _ rfl HOwn.out ⟨w3.heap.size,0,none⟩ 1 1 (eltP.cells ⟨nmb,tyb,plb,rtb,pdb,stb,dub⟩) rfl rfl HNw.out HOne.out (by decide) HB1.out HB2.out HWb.out _ rfl ?_)
      intro g cap w5 hown hgr hat hlt5
      obtain⟨q1,q2,q3,q4⟩:=HI3.out.more ⟨nmb,tyb,plb,rtb,pdb,stb,dub⟩ HLi.out HRd.out.2 (Nat.le_refl _) HW3.out g cap hown hgr (hat.imp id fun h=>h.trans (by simp))
      have HI5:Hid _:=q1
      have HS5:=hid (Nat.le_trans HW3.out q2)
      have HK5:=hid q3
      have HR5:=hid (HR3.out.same (HR0.out.keeps.trans q3) q4)
      clear hown hgr hat hlt5 q1 q2 q3 q4
      obtain⟨u6,r6,rfl⟩:=HE3.out.ne
      have C6:=want_all ⟨#[59]⟩ (by decide) HR5.out HE3.out
      cases hpp:wantT ⟨#[59]⟩ (u6::r6) with
      | error er =>
       obtain⟨kk,ee⟩:=er
       rw[hpp] at C6 HC4
       have HRes3:Hid (res=.error (kk,ee)):=HC4.out.symm
       clear hpp HC4
       simp only[rp] at C6
       go_wp2_with fail
       refine C6.mono ?_
       rintro r7 w7 ⟨hk7,rfl,t7,hr7⟩
       have HK7:=hid hk7
       have HR7:Hid _:=hr7
       clear C6 hk7 hr7
       go_wp2_with fail
       rw[HRes3.out]
       exact⟨rfl,HK5.out.trans HK7.out,rfl,t7,HR7.out⟩
      | ok pr =>
       obtain⟨z7,t7⟩:=pr
       have HL7:Hid (t7.length<(u6::r6).length):=wantT_lt (by decide) hpp
       rw[hpp] at C6 HC4
       clear hpp
       simp only[rp] at C6
       go_wp2_with fail
       refine C6.mono ?_
       rintro r7 w7 ⟨hk7,⟨v7,rfl,rfl⟩,hr7,hE7⟩
       have HI7:Hid _:=HI5.out.keep hk7 HRd.out.2
       have HS7:=hid (Nat.le_trans HS5.out hk7.size)
       have HR7:=hid hr7
       have HE7:=hid hE7
       have HC5:Hid (varsL n' (xs++[⟨nmb,tyb,plb,rtb,pdb,stb,dub⟩]) t7=res):=HC4.out
       clear C6 hk7 hr7 hE7
       go_wp2_with fail
       go_roundw
       case rel =>
        refine⟨xs++[⟨nmb,tyb,plb,rtb,pdb,stb,dub⟩],t7,n',HI7.out,HR7.out,HE7.out,HC5.out,?_,HS7.out⟩
        have:=HFw.out
        have:=HL3.out
        have:=HL7.out
        simp only[List.length_append,List.length_cons,List.length_nil] at *
        omega
       case measure =>
        rw[HMeas.out]
        have h1:=HR7.out.rest
        have h2:=HL3.out
        have h3:=HL7.out
        simp only[List.length_cons] at h2 h3
        omega
 ·rw[if_neg hbt,decide_eq_false hbt] at CS
  have HRes2:Hid (res=.ok ([],t::r)):=by rw[Hid,HRes.out];exact if_neg hbt
  clear hbt HRes
  go_wp2_with fail
  refine CS.mono ?_
  rintro x w1 ⟨rfl,hk1,hr1,hE1⟩
  have HK1:=hid hk1
  have HR1:=hid hr1
  have HE1:=hid hE1
  clear CS hk1 hr1 hE1
  go_wp2_with fail
  go_ret
  rw[HRes2.out]
  exact⟨HK1.out,⟨_,rfl,Or.inr ⟨rfl,rfl⟩⟩,HR1.out,HE1.out⟩
end Go.Proofs.YthbgnpkgglbhjaaGreatDoor
