import Derived.Test.YthbgnpkgglbhjaaGreatDoorRefBase
import Derived.Deep.RegionHeld3
import Derived.Deep.RegionLaw
namespace Go.Proofs.YthbgnpkgglbhjaaGreatDoor
open Go.RowKit
open Ex.size Ex.depth Ex.lies Ex.bulk Ex.good Ex.shape Ex.text
theorem add_name(W:World)(a:List UInt8)(nm:ByteArray)(h:a.length+nm.data.toList.length≤140737488355328):(Op.stringOp .add ⟨a.toArray⟩ nm).run Tryz.prog W=.ok (.string ⟨(a++nm.data.toList).toArray⟩) W:=add_text W a nm.data.toList h
theorem one_end{Q':Exit→Act→World→Prop}{A:Act}{W:World}(h:Q' .normal A W):∀e a w,NoPanic (fun e a w=>e=Exit.normal∧a=A∧w=W) e a w→Q' e a w:=fun e a w hq=>by
 cases e
 case panic=>exact(hq:False).elim
 case normal =>
  obtain⟨-,rfl,rfl⟩:=hq
  exact h
 all_goals exact nomatch hq.1
theorem wp_cut{c:Code}{Q':Exit→Act→World→Prop}{A a:Act}{W w:World}(h1:Code.wp Tryz.prog c (NoPanic fun e a w=>e=Exit.normal∧a=A∧w=W) a w)(h2:Q' .normal A W):Code.wp Tryz.prog c Q' a w:=Code.wp_mono (one_end h2) h1
theorem between_len_take(sep:List UInt8)(l:List (List UInt8))(k:Nat):(between sep (l.take k)).length≤(between sep l).length:=by
 obtain⟨u,hu⟩:=between_prefix sep l k
 rw[hu,List.length_append]
 omega
set_option maxRecDepth 100000 in
set_option maxHeartbeats 25600000 in
theorem params_ref(l:List Pm)(a:Option Addr)(c:Nat)(hn:l.length≤1048576)(hok:∀p∈l,p.wf∧(p.ty=1∨p.ty=2)∧(p.rt=true→0≤p.pd∧0≤p.st))(hlen:(pmsText l).length≤1000000000)(w:World)(hl:rowIn Pm.cells 7 w a l) :
  Calls Tryz.prog 44 #[.slice a l.length c] w fun r w'=>r=.returned (.string ⟨(pmsText l).toArray⟩)∧Below w.heap.size w w':=by
 obtain⟨ts,hts⟩:=nw (l.map Pm.text)
 have HTS:Hid _:=hts
 have HT:Hid (pmsText l=between [59,32] ts):=by rw[Hid,hts];rfl
 rw[HT.out] at hlen ⊢
 have HLe:=hid hlen
 obtain⟨n,hn2⟩:=nw (l.length)
 have HN:=hid hn2
 have HLen:Hid (ts.length=n):=by rw[Hid,hts,List.length_map,hn2]
 have HOK:Hid _:=hok
 have HL:Hid _:=hl
 rw[←hn2] at hn ⊢
 clear hts hn2 hlen hl hok
 go_enter Tryz.func44,Tryz.ntmps44
 go_wp2_with fail
 go_loopw [3,4] (fun s i wr=>∃k:Nat,k≤n∧i=.int .i64 k∧s=.string ⟨(between [59,32] (ts.take k)).toArray⟩∧Hid (Below w.heap.size w wr)) (fun _ i _=>n-(intOf i).toNat)
 case atStart=>exact⟨0,by omega,rfl,by simp[between],Below.refl _ _⟩
 case round =>
  obtain⟨k,hk,rfl,rfl,HB⟩:=hrel
  by_cases hlt:k<n
  ·have hkl:k<l.length:=by rw[←HN.out];exact hlt
   have hkt:k<ts.length:=by rw[HLen.out];exact hlt
   obtain⟨bA,oA,rfl,hbA,hrow⟩:=HL.out (by intro h;rw[h] at hkl;simp at hkl)
   have hcr:=old_cells (n:=7) HB.out hbA (fun j hj=>hrow k hkl j hj)
   have HF:Hid (between [59,32] (ts.take (k+1))=between [59,32] (ts.take k)++(if 0<k then [59,32] else [])++ts[k]):=between_at _ _ _ hkt
   have hx:ts[k]=l[k].text:=by simp[HTS.out]
   have hbl:(between [59,32] (ts.take (k+1))).length≤1000000000:=Nat.le_trans (between_len_take _ _ _) HLe.out
   obtain⟨⟨w1,w2,w3⟩,hty,hrt⟩:=HOK.out l[k] (List.getElem_mem hkl)
   obtain⟨S0,hS0⟩:=nw (between [59,32] (ts.take k))
   obtain⟨SZ,hSZ⟩:=nw (between [59,32] (ts.take (k+1)))
   have HSZ:Hid _:=hSZ
   rw[←hS0]
   rw[HF.out,hx,←hS0,pm_text] at hSZ
   rw[←HSZ.out] at hbl
   generalize ts[k]=tk at *
   generalize l[k]=x at *
   obtain⟨nx,tx,px,rx,pdx,sx,dx⟩:=x
   simp only[Pm.cells] at hcr w1 w2 w3 hty hrt hSZ
   have hpd:=num_range w1
   have hst:=num_range w2
   have hdu:=num_range w3
   have c0:wr.cell? ⟨bA,oA+k*7,none⟩=some (.string nx):=hcr 0 (by omega)
   have c1:wr.cell? ⟨bA,oA+k*7+1,none⟩=some (.int .u8 tx):=hcr 1 (by omega)
   have c3:wr.cell? ⟨bA,oA+k*7+3,none⟩=some (.bool rx):=hcr 3 (by omega)
   have c4:wr.cell? ⟨bA,oA+k*7+4,none⟩=some (.int .i64 pdx):=hcr 4 (by omega)
   have c5:wr.cell? ⟨bA,oA+k*7+5,none⟩=some (.int .i64 sx):=hcr 5 (by omega)
   have c6:wr.cell? ⟨bA,oA+k*7+6,none⟩=some (.int .i64 dx):=hcr 6 (by omega)
   have hbw:bA<wr.heap.size:=World.block_lt_of_cell? wr ⟨bA,oA+k*7,none⟩ c0
   have K0:Hid _:=keep_cell c0
   have K1:Hid _:=keep_cell c1
   have K3:Hid _:=keep_cell c3
   have K4:Hid _:=keep_cell c4
   have K5:Hid _:=keep_cell c5
   have K6:Hid _:=keep_cell c6
   have HS:=hid (HB.out.size)
   clear hrow hcr hx hkl hkt w1 w2 w3 hbA
   have HBL:=hid hbl
   by_cases h0:0<k
   ·have hz:True:=trivial
    rcases hty with rfl|rfl
    ·obtain⟨S1,hS1⟩:=nw (S0++[59,32])
     obtain⟨S2,hS2⟩:=nw (S1++nx.data.toList)
     obtain⟨S3,hS3⟩:=nw (S2++[58,32])
     obtain⟨S4,hS4⟩:=nw (S3++[105,110,116])
     have HS4:Hid (SZ=S4++(rateText rx pdx sx++dueText dx)):=by
      rw[Hid,hSZ,hS4,hS3,hS2,hS1]
      simp[kindText,h0]
     have hb4:S4.length≤1000000000:=by
      have:=hbl
      rw[HS4.out,List.length_append] at this
      omega
     have lS1:S1.length=S0.length+([59,32]:List UInt8).length:=by rw[hS1,List.length_append]
     have lS2:S2.length=S1.length+(nx.data.toList:List UInt8).length:=by rw[hS2,List.length_append]
     have lS3:S3.length=S2.length+([58,32]:List UInt8).length:=by rw[hS3,List.length_append]
     have lS4:S4.length=S3.length+([105,110,116]:List UInt8).length:=by rw[hS4,List.length_append]
     simp only[lC,lN] at lS1 lS3 lS4
     have s0:∀W,(Op.stringOp .add ⟨S0.toArray⟩ ⟨#[59,32]⟩).run Tryz.prog W=.ok (.string ⟨S1.toArray⟩) W:=fun W=>by rw[hS1];exact add_text W S0 [59,32] (by simp only[lC,lN];omega)
     have s1:∀W,(Op.stringOp .add ⟨S1.toArray⟩ nx).run Tryz.prog W=.ok (.string ⟨S2.toArray⟩) W:=fun W=>by rw[hS2];exact add_name W S1 nx (by omega)
     have s2:∀W,(Op.stringOp .add ⟨S2.toArray⟩ ⟨#[58,32]⟩).run Tryz.prog W=.ok (.string ⟨S3.toArray⟩) W:=fun W=>by rw[hS3];exact add_text W S2 [58,32] (by simp only[lC,lN];omega)
     have s3:∀W,(Op.stringOp .add ⟨S3.toArray⟩ ⟨#[105,110,116]⟩).run Tryz.prog W=.ok (.string ⟨S4.toArray⟩) W:=fun W=>by rw[hS4];exact add_text W S3 [105,110,116] (by simp only[lC,lN];omega)
     clear hSZ hS0 hbl hb4 hS1 hS2 hS3 hS4
     have hl4:S4.length≤1000000000:=by have:=HBL.out;rw[HS4.out,List.length_append] at this;omega
     have hw0:IntKind.u8.wrap 0=0:=rfl
     go_wp2_with fail
     apply wp_cut (W:=(wr.alloc (.cells #[.string ⟨#[105,110,116]⟩,.string ⟨#[98,111,111,108]⟩] 9)).drew)
     ·go_region_law (go_simp)
      all_goals exact⟨rfl,rfl,rfl⟩
     cases rx
     ·by_cases hd0:0<dx
      ·obtain⟨D,hD⟩:=nw (Lib.itoa dx)
       obtain⟨D1,hD1⟩:=nw (S4++[32,100,117,101,32])
       obtain⟨D2,hD2⟩:=nw (D1++D)
       have HZ:Hid (SZ=D2):=by
        rw[Hid,HS4.out,hD2,hD1,hD]
        simp[rateText,dueText,hd0]
       have hbz:=HBL.out
       rw[HZ.out] at hbz
       have lD1:D1.length=S4.length+([32,100,117,101,32]:List UInt8).length:=by rw[hD1,List.length_append]
       have lD2:D2.length=D1.length+(D:List UInt8).length:=by rw[hD2,List.length_append]
       simp only[lC,lN] at lD1
       have t0:∀W,(Op.stringOp .add ⟨S4.toArray⟩ ⟨#[32,100,117,101,32]⟩).run Tryz.prog W=.ok (.string ⟨D1.toArray⟩) W:=fun W=>by rw[hD1];exact add_text W S4 [32,100,117,101,32] (by simp only[lC,lN];omega)
       have t1:∀W,(Op.stringOp .add ⟨D1.toArray⟩ ⟨D.toArray⟩).run Tryz.prog W=.ok (.string ⟨D2.toArray⟩) W:=fun W=>by rw[hD2];exact add_text W D1 D (by omega)
       have C3:TextIs wr 60 #[.int .i64 dx] D:=⟨fun w' h=>by rw[hD];exact num_ref dx (by omega) hdu.2 w'⟩
       clear hbz hD1 hD2 lD1 lD2 hD
       go_wp2_with fail
       refine Calls.mono (C3.out _ (by first|assumption|exact gr_below (by with_reducible repeat first|exact Gr.refl _|refine Gr.alloc ?_ _|refine Gr.drewN ?_ _|refine Gr.drew ?_|refine Gr.later ?_ _ _))) ?_
       rintro r w6 ⟨rfl,hb6⟩
       have hB6:=grow_on (W:=wr) (by first|assumption|exact gr_below (by with_reducible repeat first|exact Gr.refl _|refine Gr.alloc ?_ _|refine Gr.drewN ?_ _|refine Gr.drew ?_|refine Gr.later ?_ _ _)) hb6
       clear hb6
       go_wp2_with fail
       go_roundw
       case rel=>exact⟨k+1,by omega,by go_num,by rw[←HSZ.out,HZ.out],HB.out.trans (hB6.out.mono HS.out)⟩
       case measure=>simp[intOf];omega
      ·have HZ:Hid (SZ=S4):=by
        rw[Hid,HS4.out]
        simp[rateText,dueText,hd0]
       have hbz:=HBL.out
       rw[HZ.out] at hbz
       clear hbz
       go_wp2_with fail
       go_roundw
       case rel=>exact⟨k+1,by omega,by go_num,by rw[←HSZ.out,HZ.out],HB.out.trans ((gr_below (by with_reducible repeat first|exact Gr.refl _|refine Gr.alloc ?_ _|refine Gr.drewN ?_ _|refine Gr.drew ?_|refine Gr.later ?_ _ _)).mono HS.out)⟩
       case measure=>simp[intOf];omega
     ·by_cases hd0:0<dx
      ·obtain⟨N,hN⟩:=nw (Lib.itoa pdx)
       obtain⟨M,hM⟩:=nw (Lib.itoa sx)
       obtain⟨D,hD⟩:=nw (Lib.itoa dx)
       obtain⟨R1,hR1⟩:=nw (S4++[32,114,97,116,101,32,40])
       obtain⟨R2,hR2⟩:=nw (R1++N)
       obtain⟨R3,hR3⟩:=nw (R2++[44,32])
       obtain⟨R4,hR4⟩:=nw (R3++M)
       obtain⟨R5,hR5⟩:=nw (R4++[41])
       obtain⟨D1,hD1⟩:=nw (R5++[32,100,117,101,32])
       obtain⟨D2,hD2⟩:=nw (D1++D)
       have HZ:Hid (SZ=D2):=by
        rw[Hid,HS4.out,hD2,hD1,hR5,hR4,hR3,hR2,hR1,hN,hM,hD]
        simp[rateText,dueText,hd0]
       have hbz:=HBL.out
       rw[HZ.out] at hbz
       have lR1:R1.length=S4.length+([32,114,97,116,101,32,40]:List UInt8).length:=by rw[hR1,List.length_append]
       have lR2:R2.length=R1.length+(N:List UInt8).length:=by rw[hR2,List.length_append]
       have lR3:R3.length=R2.length+([44,32]:List UInt8).length:=by rw[hR3,List.length_append]
       have lR4:R4.length=R3.length+(M:List UInt8).length:=by rw[hR4,List.length_append]
       have lR5:R5.length=R4.length+([41]:List UInt8).length:=by rw[hR5,List.length_append]
       have lD1:D1.length=R5.length+([32,100,117,101,32]:List UInt8).length:=by rw[hD1,List.length_append]
       have lD2:D2.length=D1.length+(D:List UInt8).length:=by rw[hD2,List.length_append]
       simp only[lC,lN] at lR1 lR3 lR5 lD1
       have t0:∀W,(Op.stringOp .add ⟨S4.toArray⟩ ⟨#[32,114,97,116,101,32,40]⟩).run Tryz.prog W=.ok (.string ⟨R1.toArray⟩) W:=fun W=>by rw[hR1];exact add_text W S4 [32,114,97,116,101,32,40] (by simp only[lC,lN];omega)
       have t1:∀W,(Op.stringOp .add ⟨R1.toArray⟩ ⟨N.toArray⟩).run Tryz.prog W=.ok (.string ⟨R2.toArray⟩) W:=fun W=>by rw[hR2];exact add_text W R1 N (by omega)
       have t2:∀W,(Op.stringOp .add ⟨R2.toArray⟩ ⟨#[44,32]⟩).run Tryz.prog W=.ok (.string ⟨R3.toArray⟩) W:=fun W=>by rw[hR3];exact add_text W R2 [44,32] (by simp only[lC,lN];omega)
       have t3:∀W,(Op.stringOp .add ⟨R3.toArray⟩ ⟨M.toArray⟩).run Tryz.prog W=.ok (.string ⟨R4.toArray⟩) W:=fun W=>by rw[hR4];exact add_text W R3 M (by omega)
       have t4:∀W,(Op.stringOp .add ⟨R4.toArray⟩ ⟨#[41]⟩).run Tryz.prog W=.ok (.string ⟨R5.toArray⟩) W:=fun W=>by rw[hR5];exact add_text W R4 [41] (by simp only[lC,lN];omega)
       have t5:∀W,(Op.stringOp .add ⟨R5.toArray⟩ ⟨#[32,100,117,101,32]⟩).run Tryz.prog W=.ok (.string ⟨D1.toArray⟩) W:=fun W=>by rw[hD1];exact add_text W R5 [32,100,117,101,32] (by simp only[lC,lN];omega)
       have t6:∀W,(Op.stringOp .add ⟨D1.toArray⟩ ⟨D.toArray⟩).run Tryz.prog W=.ok (.string ⟨D2.toArray⟩) W:=fun W=>by rw[hD2];exact add_text W D1 D (by omega)
       have C1:TextIs wr 60 #[.int .i64 pdx] N:=⟨fun w' h=>by rw[hN];exact num_ref pdx (hrt rfl).1 hpd.2 w'⟩
       have C2:TextIs wr 60 #[.int .i64 sx] M:=⟨fun w' h=>by rw[hM];exact num_ref sx (hrt rfl).2 hst.2 w'⟩
       have C3:TextIs wr 60 #[.int .i64 dx] D:=⟨fun w' h=>by rw[hD];exact num_ref dx (by omega) hdu.2 w'⟩
       clear hbz hR1 hR2 hR3 hR4 hR5 hD1 hD2 lR1 lR2 lR3 lR4 lR5 lD1 lD2 hN hM hD
       go_wp2_with fail
       go_region_held3 (fun w'=>w'.cell? ⟨bA,oA+k*7+4,none⟩=some (.int .i64 pdx)∧w'.cell? ⟨bA,oA+k*7+5,none⟩=some (.int .i64 sx)∧bA<w'.heap.size) (go_simp) ((refine Calls.mono (TextIs.out (W0:=wr) (by assumption) _ (by first|assumption|exact gr_below (by with_reducible repeat first|exact Gr.refl _|refine Gr.alloc ?_ _|refine Gr.drewN ?_ _|refine Gr.drew ?_|refine Gr.later ?_ _ _))) ?_;rintro r w5 ⟨rfl,hb5⟩;have hB5:=grow_on (W:=wr) (by first|assumption|exact gr_below (by with_reducible repeat first|exact Gr.refl _|refine Gr.alloc ?_ _|refine Gr.drewN ?_ _|refine Gr.drew ?_|refine Gr.later ?_ _ _)) hb5;have m4:=K4.out w5 hB5;have m5:=K5.out w5 hB5;have m6:=K6.out w5 hB5;have mb:bA<w5.heap.size:=Nat.lt_of_lt_of_le hbw hB5.out.size;clear hb5))
       go_wp2_with fail
       refine Calls.mono (C3.out _ (by first|assumption|exact gr_below (by with_reducible repeat first|exact Gr.refl _|refine Gr.alloc ?_ _|refine Gr.drewN ?_ _|refine Gr.drew ?_|refine Gr.later ?_ _ _))) ?_
       rintro r w6 ⟨rfl,hb6⟩
       have hB6:=grow_on (W:=wr) (by first|assumption|exact gr_below (by with_reducible repeat first|exact Gr.refl _|refine Gr.alloc ?_ _|refine Gr.drewN ?_ _|refine Gr.drew ?_|refine Gr.later ?_ _ _)) hb6
       clear hb6
       go_wp2_with fail
       go_roundw
       case rel=>exact⟨k+1,by omega,by go_num,by rw[←HSZ.out,HZ.out],HB.out.trans (hB6.out.mono HS.out)⟩
       case measure=>simp[intOf];omega
      ·obtain⟨N,hN⟩:=nw (Lib.itoa pdx)
       obtain⟨M,hM⟩:=nw (Lib.itoa sx)
       obtain⟨R1,hR1⟩:=nw (S4++[32,114,97,116,101,32,40])
       obtain⟨R2,hR2⟩:=nw (R1++N)
       obtain⟨R3,hR3⟩:=nw (R2++[44,32])
       obtain⟨R4,hR4⟩:=nw (R3++M)
       obtain⟨R5,hR5⟩:=nw (R4++[41])
       have HZ:Hid (SZ=R5):=by
        rw[Hid,HS4.out,hR5,hR4,hR3,hR2,hR1,hN,hM]
        simp[rateText,dueText,hd0]
       have hbz:=HBL.out
       rw[HZ.out] at hbz
       have lR1:R1.length=S4.length+([32,114,97,116,101,32,40]:List UInt8).length:=by rw[hR1,List.length_append]
       have lR2:R2.length=R1.length+(N:List UInt8).length:=by rw[hR2,List.length_append]
       have lR3:R3.length=R2.length+([44,32]:List UInt8).length:=by rw[hR3,List.length_append]
       have lR4:R4.length=R3.length+(M:List UInt8).length:=by rw[hR4,List.length_append]
       have lR5:R5.length=R4.length+([41]:List UInt8).length:=by rw[hR5,List.length_append]
       simp only[lC,lN] at lR1 lR3 lR5
       have t0:∀W,(Op.stringOp .add ⟨S4.toArray⟩ ⟨#[32,114,97,116,101,32,40]⟩).run Tryz.prog W=.ok (.string ⟨R1.toArray⟩) W:=fun W=>by rw[hR1];exact add_text W S4 [32,114,97,116,101,32,40] (by simp only[lC,lN];omega)
       have t1:∀W,(Op.stringOp .add ⟨R1.toArray⟩ ⟨N.toArray⟩).run Tryz.prog W=.ok (.string ⟨R2.toArray⟩) W:=fun W=>by rw[hR2];exact add_text W R1 N (by omega)
       have t2:∀W,(Op.stringOp .add ⟨R2.toArray⟩ ⟨#[44,32]⟩).run Tryz.prog W=.ok (.string ⟨R3.toArray⟩) W:=fun W=>by rw[hR3];exact add_text W R2 [44,32] (by simp only[lC,lN];omega)
       have t3:∀W,(Op.stringOp .add ⟨R3.toArray⟩ ⟨M.toArray⟩).run Tryz.prog W=.ok (.string ⟨R4.toArray⟩) W:=fun W=>by rw[hR4];exact add_text W R3 M (by omega)
       have t4:∀W,(Op.stringOp .add ⟨R4.toArray⟩ ⟨#[41]⟩).run Tryz.prog W=.ok (.string ⟨R5.toArray⟩) W:=fun W=>by rw[hR5];exact add_text W R4 [41] (by simp only[lC,lN];omega)
       have C1:TextIs wr 60 #[.int .i64 pdx] N:=⟨fun w' h=>by rw[hN];exact num_ref pdx (hrt rfl).1 hpd.2 w'⟩
       have C2:TextIs wr 60 #[.int .i64 sx] M:=⟨fun w' h=>by rw[hM];exact num_ref sx (hrt rfl).2 hst.2 w'⟩
       clear hbz hR1 hR2 hR3 hR4 hR5 lR1 lR2 lR3 lR4 lR5 hN hM
       go_wp2_with fail
       go_region_held3 (fun w'=>w'.cell? ⟨bA,oA+k*7+4,none⟩=some (.int .i64 pdx)∧w'.cell? ⟨bA,oA+k*7+5,none⟩=some (.int .i64 sx)∧bA<w'.heap.size) (go_simp) ((refine Calls.mono (TextIs.out (W0:=wr) (by assumption) _ (by first|assumption|exact gr_below (by with_reducible repeat first|exact Gr.refl _|refine Gr.alloc ?_ _|refine Gr.drewN ?_ _|refine Gr.drew ?_|refine Gr.later ?_ _ _))) ?_;rintro r w5 ⟨rfl,hb5⟩;have hB5:=grow_on (W:=wr) (by first|assumption|exact gr_below (by with_reducible repeat first|exact Gr.refl _|refine Gr.alloc ?_ _|refine Gr.drewN ?_ _|refine Gr.drew ?_|refine Gr.later ?_ _ _)) hb5;have m4:=K4.out w5 hB5;have m5:=K5.out w5 hB5;have m6:=K6.out w5 hB5;have mb:bA<w5.heap.size:=Nat.lt_of_lt_of_le hbw hB5.out.size;clear hb5))
       go_wp2_with fail
       go_roundw
       case rel=>exact⟨k+1,by omega,by go_num,by rw[←HSZ.out,HZ.out],HB.out.trans (hB5.out.mono HS.out)⟩
       case measure=>simp[intOf];omega
    ·obtain⟨S1,hS1⟩:=nw (S0++[59,32])
     obtain⟨S2,hS2⟩:=nw (S1++nx.data.toList)
     obtain⟨S3,hS3⟩:=nw (S2++[58,32])
     obtain⟨S4,hS4⟩:=nw (S3++[98,111,111,108])
     have HS4:Hid (SZ=S4++(rateText rx pdx sx++dueText dx)):=by
      rw[Hid,hSZ,hS4,hS3,hS2,hS1]
      simp[kindText,h0]
     have hb4:S4.length≤1000000000:=by
      have:=hbl
      rw[HS4.out,List.length_append] at this
      omega
     have lS1:S1.length=S0.length+([59,32]:List UInt8).length:=by rw[hS1,List.length_append]
     have lS2:S2.length=S1.length+(nx.data.toList:List UInt8).length:=by rw[hS2,List.length_append]
     have lS3:S3.length=S2.length+([58,32]:List UInt8).length:=by rw[hS3,List.length_append]
     have lS4:S4.length=S3.length+([98,111,111,108]:List UInt8).length:=by rw[hS4,List.length_append]
     simp only[lC,lN] at lS1 lS3 lS4
     have s0:∀W,(Op.stringOp .add ⟨S0.toArray⟩ ⟨#[59,32]⟩).run Tryz.prog W=.ok (.string ⟨S1.toArray⟩) W:=fun W=>by rw[hS1];exact add_text W S0 [59,32] (by simp only[lC,lN];omega)
     have s1:∀W,(Op.stringOp .add ⟨S1.toArray⟩ nx).run Tryz.prog W=.ok (.string ⟨S2.toArray⟩) W:=fun W=>by rw[hS2];exact add_name W S1 nx (by omega)
     have s2:∀W,(Op.stringOp .add ⟨S2.toArray⟩ ⟨#[58,32]⟩).run Tryz.prog W=.ok (.string ⟨S3.toArray⟩) W:=fun W=>by rw[hS3];exact add_text W S2 [58,32] (by simp only[lC,lN];omega)
     have s3:∀W,(Op.stringOp .add ⟨S3.toArray⟩ ⟨#[98,111,111,108]⟩).run Tryz.prog W=.ok (.string ⟨S4.toArray⟩) W:=fun W=>by rw[hS4];exact add_text W S3 [98,111,111,108] (by simp only[lC,lN];omega)
     clear hSZ hS0 hbl hb4 hS1 hS2 hS3 hS4
     have hl4:S4.length≤1000000000:=by have:=HBL.out;rw[HS4.out,List.length_append] at this;omega
     have hw0:IntKind.u8.wrap 1=1:=rfl
     go_wp2_with fail
     apply wp_cut (W:=(wr.alloc (.cells #[.string ⟨#[105,110,116]⟩,.string ⟨#[98,111,111,108]⟩] 9)).drew)
     ·go_region_law (go_simp)
      all_goals exact⟨rfl,rfl,rfl⟩
     cases rx
     ·by_cases hd0:0<dx
      ·obtain⟨D,hD⟩:=nw (Lib.itoa dx)
       obtain⟨D1,hD1⟩:=nw (S4++[32,100,117,101,32])
       obtain⟨D2,hD2⟩:=nw (D1++D)
       have HZ:Hid (SZ=D2):=by
        rw[Hid,HS4.out,hD2,hD1,hD]
        simp[rateText,dueText,hd0]
       have hbz:=HBL.out
       rw[HZ.out] at hbz
       have lD1:D1.length=S4.length+([32,100,117,101,32]:List UInt8).length:=by rw[hD1,List.length_append]
       have lD2:D2.length=D1.length+(D:List UInt8).length:=by rw[hD2,List.length_append]
       simp only[lC,lN] at lD1
       have t0:∀W,(Op.stringOp .add ⟨S4.toArray⟩ ⟨#[32,100,117,101,32]⟩).run Tryz.prog W=.ok (.string ⟨D1.toArray⟩) W:=fun W=>by rw[hD1];exact add_text W S4 [32,100,117,101,32] (by simp only[lC,lN];omega)
       have t1:∀W,(Op.stringOp .add ⟨D1.toArray⟩ ⟨D.toArray⟩).run Tryz.prog W=.ok (.string ⟨D2.toArray⟩) W:=fun W=>by rw[hD2];exact add_text W D1 D (by omega)
       have C3:TextIs wr 60 #[.int .i64 dx] D:=⟨fun w' h=>by rw[hD];exact num_ref dx (by omega) hdu.2 w'⟩
       clear hbz hD1 hD2 lD1 lD2 hD
       go_wp2_with fail
       refine Calls.mono (C3.out _ (by first|assumption|exact gr_below (by with_reducible repeat first|exact Gr.refl _|refine Gr.alloc ?_ _|refine Gr.drewN ?_ _|refine Gr.drew ?_|refine Gr.later ?_ _ _))) ?_
       rintro r w6 ⟨rfl,hb6⟩
       have hB6:=grow_on (W:=wr) (by first|assumption|exact gr_below (by with_reducible repeat first|exact Gr.refl _|refine Gr.alloc ?_ _|refine Gr.drewN ?_ _|refine Gr.drew ?_|refine Gr.later ?_ _ _)) hb6
       clear hb6
       go_wp2_with fail
       go_roundw
       case rel=>exact⟨k+1,by omega,by go_num,by rw[←HSZ.out,HZ.out],HB.out.trans (hB6.out.mono HS.out)⟩
       case measure=>simp[intOf];omega
      ·have HZ:Hid (SZ=S4):=by
        rw[Hid,HS4.out]
        simp[rateText,dueText,hd0]
       have hbz:=HBL.out
       rw[HZ.out] at hbz
       clear hbz
       go_wp2_with fail
       go_roundw
       case rel=>exact⟨k+1,by omega,by go_num,by rw[←HSZ.out,HZ.out],HB.out.trans ((gr_below (by with_reducible repeat first|exact Gr.refl _|refine Gr.alloc ?_ _|refine Gr.drewN ?_ _|refine Gr.drew ?_|refine Gr.later ?_ _ _)).mono HS.out)⟩
       case measure=>simp[intOf];omega
     ·by_cases hd0:0<dx
      ·obtain⟨N,hN⟩:=nw (Lib.itoa pdx)
       obtain⟨M,hM⟩:=nw (Lib.itoa sx)
       obtain⟨D,hD⟩:=nw (Lib.itoa dx)
       obtain⟨R1,hR1⟩:=nw (S4++[32,114,97,116,101,32,40])
       obtain⟨R2,hR2⟩:=nw (R1++N)
       obtain⟨R3,hR3⟩:=nw (R2++[44,32])
       obtain⟨R4,hR4⟩:=nw (R3++M)
       obtain⟨R5,hR5⟩:=nw (R4++[41])
       obtain⟨D1,hD1⟩:=nw (R5++[32,100,117,101,32])
       obtain⟨D2,hD2⟩:=nw (D1++D)
       have HZ:Hid (SZ=D2):=by
        rw[Hid,HS4.out,hD2,hD1,hR5,hR4,hR3,hR2,hR1,hN,hM,hD]
        simp[rateText,dueText,hd0]
       have hbz:=HBL.out
       rw[HZ.out] at hbz
       have lR1:R1.length=S4.length+([32,114,97,116,101,32,40]:List UInt8).length:=by rw[hR1,List.length_append]
       have lR2:R2.length=R1.length+(N:List UInt8).length:=by rw[hR2,List.length_append]
       have lR3:R3.length=R2.length+([44,32]:List UInt8).length:=by rw[hR3,List.length_append]
       have lR4:R4.length=R3.length+(M:List UInt8).length:=by rw[hR4,List.length_append]
       have lR5:R5.length=R4.length+([41]:List UInt8).length:=by rw[hR5,List.length_append]
       have lD1:D1.length=R5.length+([32,100,117,101,32]:List UInt8).length:=by rw[hD1,List.length_append]
       have lD2:D2.length=D1.length+(D:List UInt8).length:=by rw[hD2,List.length_append]
       simp only[lC,lN] at lR1 lR3 lR5 lD1
       have t0:∀W,(Op.stringOp .add ⟨S4.toArray⟩ ⟨#[32,114,97,116,101,32,40]⟩).run Tryz.prog W=.ok (.string ⟨R1.toArray⟩) W:=fun W=>by rw[hR1];exact add_text W S4 [32,114,97,116,101,32,40] (by simp only[lC,lN];omega)
       have t1:∀W,(Op.stringOp .add ⟨R1.toArray⟩ ⟨N.toArray⟩).run Tryz.prog W=.ok (.string ⟨R2.toArray⟩) W:=fun W=>by rw[hR2];exact add_text W R1 N (by omega)
       have t2:∀W,(Op.stringOp .add ⟨R2.toArray⟩ ⟨#[44,32]⟩).run Tryz.prog W=.ok (.string ⟨R3.toArray⟩) W:=fun W=>by rw[hR3];exact add_text W R2 [44,32] (by simp only[lC,lN];omega)
       have t3:∀W,(Op.stringOp .add ⟨R3.toArray⟩ ⟨M.toArray⟩).run Tryz.prog W=.ok (.string ⟨R4.toArray⟩) W:=fun W=>by rw[hR4];exact add_text W R3 M (by omega)
       have t4:∀W,(Op.stringOp .add ⟨R4.toArray⟩ ⟨#[41]⟩).run Tryz.prog W=.ok (.string ⟨R5.toArray⟩) W:=fun W=>by rw[hR5];exact add_text W R4 [41] (by simp only[lC,lN];omega)
       have t5:∀W,(Op.stringOp .add ⟨R5.toArray⟩ ⟨#[32,100,117,101,32]⟩).run Tryz.prog W=.ok (.string ⟨D1.toArray⟩) W:=fun W=>by rw[hD1];exact add_text W R5 [32,100,117,101,32] (by simp only[lC,lN];omega)
       have t6:∀W,(Op.stringOp .add ⟨D1.toArray⟩ ⟨D.toArray⟩).run Tryz.prog W=.ok (.string ⟨D2.toArray⟩) W:=fun W=>by rw[hD2];exact add_text W D1 D (by omega)
       have C1:TextIs wr 60 #[.int .i64 pdx] N:=⟨fun w' h=>by rw[hN];exact num_ref pdx (hrt rfl).1 hpd.2 w'⟩
       have C2:TextIs wr 60 #[.int .i64 sx] M:=⟨fun w' h=>by rw[hM];exact num_ref sx (hrt rfl).2 hst.2 w'⟩
       have C3:TextIs wr 60 #[.int .i64 dx] D:=⟨fun w' h=>by rw[hD];exact num_ref dx (by omega) hdu.2 w'⟩
       clear hbz hR1 hR2 hR3 hR4 hR5 hD1 hD2 lR1 lR2 lR3 lR4 lR5 lD1 lD2 hN hM hD
       go_wp2_with fail
       go_region_held3 (fun w'=>w'.cell? ⟨bA,oA+k*7+4,none⟩=some (.int .i64 pdx)∧w'.cell? ⟨bA,oA+k*7+5,none⟩=some (.int .i64 sx)∧bA<w'.heap.size) (go_simp) ((refine Calls.mono (TextIs.out (W0:=wr) (by assumption) _ (by first|assumption|exact gr_below (by with_reducible repeat first|exact Gr.refl _|refine Gr.alloc ?_ _|refine Gr.drewN ?_ _|refine Gr.drew ?_|refine Gr.later ?_ _ _))) ?_;rintro r w5 ⟨rfl,hb5⟩;have hB5:=grow_on (W:=wr) (by first|assumption|exact gr_below (by with_reducible repeat first|exact Gr.refl _|refine Gr.alloc ?_ _|refine Gr.drewN ?_ _|refine Gr.drew ?_|refine Gr.later ?_ _ _)) hb5;have m4:=K4.out w5 hB5;have m5:=K5.out w5 hB5;have m6:=K6.out w5 hB5;have mb:bA<w5.heap.size:=Nat.lt_of_lt_of_le hbw hB5.out.size;clear hb5))
       go_wp2_with fail
       refine Calls.mono (C3.out _ (by first|assumption|exact gr_below (by with_reducible repeat first|exact Gr.refl _|refine Gr.alloc ?_ _|refine Gr.drewN ?_ _|refine Gr.drew ?_|refine Gr.later ?_ _ _))) ?_
       rintro r w6 ⟨rfl,hb6⟩
       have hB6:=grow_on (W:=wr) (by first|assumption|exact gr_below (by with_reducible repeat first|exact Gr.refl _|refine Gr.alloc ?_ _|refine Gr.drewN ?_ _|refine Gr.drew ?_|refine Gr.later ?_ _ _)) hb6
       clear hb6
       go_wp2_with fail
       go_roundw
       case rel=>exact⟨k+1,by omega,by go_num,by rw[←HSZ.out,HZ.out],HB.out.trans (hB6.out.mono HS.out)⟩
       case measure=>simp[intOf];omega
      ·obtain⟨N,hN⟩:=nw (Lib.itoa pdx)
       obtain⟨M,hM⟩:=nw (Lib.itoa sx)
       obtain⟨R1,hR1⟩:=nw (S4++[32,114,97,116,101,32,40])
       obtain⟨R2,hR2⟩:=nw (R1++N)
       obtain⟨R3,hR3⟩:=nw (R2++[44,32])
       obtain⟨R4,hR4⟩:=nw (R3++M)
       obtain⟨R5,hR5⟩:=nw (R4++[41])
       have HZ:Hid (SZ=R5):=by
        rw[Hid,HS4.out,hR5,hR4,hR3,hR2,hR1,hN,hM]
        simp[rateText,dueText,hd0]
       have hbz:=HBL.out
       rw[HZ.out] at hbz
       have lR1:R1.length=S4.length+([32,114,97,116,101,32,40]:List UInt8).length:=by rw[hR1,List.length_append]
       have lR2:R2.length=R1.length+(N:List UInt8).length:=by rw[hR2,List.length_append]
       have lR3:R3.length=R2.length+([44,32]:List UInt8).length:=by rw[hR3,List.length_append]
       have lR4:R4.length=R3.length+(M:List UInt8).length:=by rw[hR4,List.length_append]
       have lR5:R5.length=R4.length+([41]:List UInt8).length:=by rw[hR5,List.length_append]
       simp only[lC,lN] at lR1 lR3 lR5
       have t0:∀W,(Op.stringOp .add ⟨S4.toArray⟩ ⟨#[32,114,97,116,101,32,40]⟩).run Tryz.prog W=.ok (.string ⟨R1.toArray⟩) W:=fun W=>by rw[hR1];exact add_text W S4 [32,114,97,116,101,32,40] (by simp only[lC,lN];omega)
       have t1:∀W,(Op.stringOp .add ⟨R1.toArray⟩ ⟨N.toArray⟩).run Tryz.prog W=.ok (.string ⟨R2.toArray⟩) W:=fun W=>by rw[hR2];exact add_text W R1 N (by omega)
       have t2:∀W,(Op.stringOp .add ⟨R2.toArray⟩ ⟨#[44,32]⟩).run Tryz.prog W=.ok (.string ⟨R3.toArray⟩) W:=fun W=>by rw[hR3];exact add_text W R2 [44,32] (by simp only[lC,lN];omega)
       have t3:∀W,(Op.stringOp .add ⟨R3.toArray⟩ ⟨M.toArray⟩).run Tryz.prog W=.ok (.string ⟨R4.toArray⟩) W:=fun W=>by rw[hR4];exact add_text W R3 M (by omega)
       have t4:∀W,(Op.stringOp .add ⟨R4.toArray⟩ ⟨#[41]⟩).run Tryz.prog W=.ok (.string ⟨R5.toArray⟩) W:=fun W=>by rw[hR5];exact add_text W R4 [41] (by simp only[lC,lN];omega)
       have C1:TextIs wr 60 #[.int .i64 pdx] N:=⟨fun w' h=>by rw[hN];exact num_ref pdx (hrt rfl).1 hpd.2 w'⟩
       have C2:TextIs wr 60 #[.int .i64 sx] M:=⟨fun w' h=>by rw[hM];exact num_ref sx (hrt rfl).2 hst.2 w'⟩
       clear hbz hR1 hR2 hR3 hR4 hR5 lR1 lR2 lR3 lR4 lR5 hN hM
       go_wp2_with fail
       go_region_held3 (fun w'=>w'.cell? ⟨bA,oA+k*7+4,none⟩=some (.int .i64 pdx)∧w'.cell? ⟨bA,oA+k*7+5,none⟩=some (.int .i64 sx)∧bA<w'.heap.size) (go_simp) ((refine Calls.mono (TextIs.out (W0:=wr) (by assumption) _ (by first|assumption|exact gr_below (by with_reducible repeat first|exact Gr.refl _|refine Gr.alloc ?_ _|refine Gr.drewN ?_ _|refine Gr.drew ?_|refine Gr.later ?_ _ _))) ?_;rintro r w5 ⟨rfl,hb5⟩;have hB5:=grow_on (W:=wr) (by first|assumption|exact gr_below (by with_reducible repeat first|exact Gr.refl _|refine Gr.alloc ?_ _|refine Gr.drewN ?_ _|refine Gr.drew ?_|refine Gr.later ?_ _ _)) hb5;have m4:=K4.out w5 hB5;have m5:=K5.out w5 hB5;have m6:=K6.out w5 hB5;have mb:bA<w5.heap.size:=Nat.lt_of_lt_of_le hbw hB5.out.size;clear hb5))
       go_wp2_with fail
       go_roundw
       case rel=>exact⟨k+1,by omega,by go_num,by rw[←HSZ.out,HZ.out],HB.out.trans (hB5.out.mono HS.out)⟩
       case measure=>simp[intOf];omega
   ·obtain rfl:k=0:=by omega
    simp only[Nat.zero_mul,Nat.add_zero] at c0 c1 c3 c4 c5 c6 K0 K1 K3 K4 K5 K6
    rcases hty with rfl|rfl
    ·obtain⟨S2,hS2⟩:=nw (S0++nx.data.toList)
     obtain⟨S3,hS3⟩:=nw (S2++[58,32])
     obtain⟨S4,hS4⟩:=nw (S3++[105,110,116])
     have HS4:Hid (SZ=S4++(rateText rx pdx sx++dueText dx)):=by
      rw[Hid,hSZ,hS4,hS3,hS2]
      simp[kindText]
     have hb4:S4.length≤1000000000:=by
      have:=hbl
      rw[HS4.out,List.length_append] at this
      omega
     have lS2:S2.length=S0.length+(nx.data.toList:List UInt8).length:=by rw[hS2,List.length_append]
     have lS3:S3.length=S2.length+([58,32]:List UInt8).length:=by rw[hS3,List.length_append]
     have lS4:S4.length=S3.length+([105,110,116]:List UInt8).length:=by rw[hS4,List.length_append]
     simp only[lC,lN] at lS3 lS4
     have s0:∀W,(Op.stringOp .add ⟨S0.toArray⟩ nx).run Tryz.prog W=.ok (.string ⟨S2.toArray⟩) W:=fun W=>by rw[hS2];exact add_name W S0 nx (by omega)
     have s1:∀W,(Op.stringOp .add ⟨S2.toArray⟩ ⟨#[58,32]⟩).run Tryz.prog W=.ok (.string ⟨S3.toArray⟩) W:=fun W=>by rw[hS3];exact add_text W S2 [58,32] (by simp only[lC,lN];omega)
     have s2:∀W,(Op.stringOp .add ⟨S3.toArray⟩ ⟨#[105,110,116]⟩).run Tryz.prog W=.ok (.string ⟨S4.toArray⟩) W:=fun W=>by rw[hS4];exact add_text W S3 [105,110,116] (by simp only[lC,lN];omega)
     clear hSZ hS0 hbl hb4 hS2 hS3 hS4
     have hl4:S4.length≤1000000000:=by have:=HBL.out;rw[HS4.out,List.length_append] at this;omega
     have hw0:IntKind.u8.wrap 0=0:=rfl
     go_wp2_with fail
     apply wp_cut (W:=(wr.alloc (.cells #[.string ⟨#[105,110,116]⟩,.string ⟨#[98,111,111,108]⟩] 9)).drew)
     ·go_region_law (go_simp)
      all_goals exact⟨rfl,rfl,rfl⟩
     cases rx
     ·by_cases hd0:0<dx
      ·obtain⟨D,hD⟩:=nw (Lib.itoa dx)
       obtain⟨D1,hD1⟩:=nw (S4++[32,100,117,101,32])
       obtain⟨D2,hD2⟩:=nw (D1++D)
       have HZ:Hid (SZ=D2):=by
        rw[Hid,HS4.out,hD2,hD1,hD]
        simp[rateText,dueText,hd0]
       have hbz:=HBL.out
       rw[HZ.out] at hbz
       have lD1:D1.length=S4.length+([32,100,117,101,32]:List UInt8).length:=by rw[hD1,List.length_append]
       have lD2:D2.length=D1.length+(D:List UInt8).length:=by rw[hD2,List.length_append]
       simp only[lC,lN] at lD1
       have t0:∀W,(Op.stringOp .add ⟨S4.toArray⟩ ⟨#[32,100,117,101,32]⟩).run Tryz.prog W=.ok (.string ⟨D1.toArray⟩) W:=fun W=>by rw[hD1];exact add_text W S4 [32,100,117,101,32] (by simp only[lC,lN];omega)
       have t1:∀W,(Op.stringOp .add ⟨D1.toArray⟩ ⟨D.toArray⟩).run Tryz.prog W=.ok (.string ⟨D2.toArray⟩) W:=fun W=>by rw[hD2];exact add_text W D1 D (by omega)
       have C3:TextIs wr 60 #[.int .i64 dx] D:=⟨fun w' h=>by rw[hD];exact num_ref dx (by omega) hdu.2 w'⟩
       clear hbz hD1 hD2 lD1 lD2 hD
       go_wp2_with fail
       refine Calls.mono (C3.out _ (by first|assumption|exact gr_below (by with_reducible repeat first|exact Gr.refl _|refine Gr.alloc ?_ _|refine Gr.drewN ?_ _|refine Gr.drew ?_|refine Gr.later ?_ _ _))) ?_
       rintro r w6 ⟨rfl,hb6⟩
       have hB6:=grow_on (W:=wr) (by first|assumption|exact gr_below (by with_reducible repeat first|exact Gr.refl _|refine Gr.alloc ?_ _|refine Gr.drewN ?_ _|refine Gr.drew ?_|refine Gr.later ?_ _ _)) hb6
       clear hb6
       go_wp2_with fail
       go_roundw
       case rel=>exact⟨1,by omega,by go_num,by rw[←HSZ.out,HZ.out],HB.out.trans (hB6.out.mono HS.out)⟩
       case measure=>simp[intOf];omega
      ·have HZ:Hid (SZ=S4):=by
        rw[Hid,HS4.out]
        simp[rateText,dueText,hd0]
       have hbz:=HBL.out
       rw[HZ.out] at hbz
       clear hbz
       go_wp2_with fail
       go_roundw
       case rel=>exact⟨1,by omega,by go_num,by rw[←HSZ.out,HZ.out],HB.out.trans ((gr_below (by with_reducible repeat first|exact Gr.refl _|refine Gr.alloc ?_ _|refine Gr.drewN ?_ _|refine Gr.drew ?_|refine Gr.later ?_ _ _)).mono HS.out)⟩
       case measure=>simp[intOf];omega
     ·by_cases hd0:0<dx
      ·obtain⟨N,hN⟩:=nw (Lib.itoa pdx)
       obtain⟨M,hM⟩:=nw (Lib.itoa sx)
       obtain⟨D,hD⟩:=nw (Lib.itoa dx)
       obtain⟨R1,hR1⟩:=nw (S4++[32,114,97,116,101,32,40])
       obtain⟨R2,hR2⟩:=nw (R1++N)
       obtain⟨R3,hR3⟩:=nw (R2++[44,32])
       obtain⟨R4,hR4⟩:=nw (R3++M)
       obtain⟨R5,hR5⟩:=nw (R4++[41])
       obtain⟨D1,hD1⟩:=nw (R5++[32,100,117,101,32])
       obtain⟨D2,hD2⟩:=nw (D1++D)
       have HZ:Hid (SZ=D2):=by
        rw[Hid,HS4.out,hD2,hD1,hR5,hR4,hR3,hR2,hR1,hN,hM,hD]
        simp[rateText,dueText,hd0]
       have hbz:=HBL.out
       rw[HZ.out] at hbz
       have lR1:R1.length=S4.length+([32,114,97,116,101,32,40]:List UInt8).length:=by rw[hR1,List.length_append]
       have lR2:R2.length=R1.length+(N:List UInt8).length:=by rw[hR2,List.length_append]
       have lR3:R3.length=R2.length+([44,32]:List UInt8).length:=by rw[hR3,List.length_append]
       have lR4:R4.length=R3.length+(M:List UInt8).length:=by rw[hR4,List.length_append]
       have lR5:R5.length=R4.length+([41]:List UInt8).length:=by rw[hR5,List.length_append]
       have lD1:D1.length=R5.length+([32,100,117,101,32]:List UInt8).length:=by rw[hD1,List.length_append]
       have lD2:D2.length=D1.length+(D:List UInt8).length:=by rw[hD2,List.length_append]
       simp only[lC,lN] at lR1 lR3 lR5 lD1
       have t0:∀W,(Op.stringOp .add ⟨S4.toArray⟩ ⟨#[32,114,97,116,101,32,40]⟩).run Tryz.prog W=.ok (.string ⟨R1.toArray⟩) W:=fun W=>by rw[hR1];exact add_text W S4 [32,114,97,116,101,32,40] (by simp only[lC,lN];omega)
       have t1:∀W,(Op.stringOp .add ⟨R1.toArray⟩ ⟨N.toArray⟩).run Tryz.prog W=.ok (.string ⟨R2.toArray⟩) W:=fun W=>by rw[hR2];exact add_text W R1 N (by omega)
       have t2:∀W,(Op.stringOp .add ⟨R2.toArray⟩ ⟨#[44,32]⟩).run Tryz.prog W=.ok (.string ⟨R3.toArray⟩) W:=fun W=>by rw[hR3];exact add_text W R2 [44,32] (by simp only[lC,lN];omega)
       have t3:∀W,(Op.stringOp .add ⟨R3.toArray⟩ ⟨M.toArray⟩).run Tryz.prog W=.ok (.string ⟨R4.toArray⟩) W:=fun W=>by rw[hR4];exact add_text W R3 M (by omega)
       have t4:∀W,(Op.stringOp .add ⟨R4.toArray⟩ ⟨#[41]⟩).run Tryz.prog W=.ok (.string ⟨R5.toArray⟩) W:=fun W=>by rw[hR5];exact add_text W R4 [41] (by simp only[lC,lN];omega)
       have t5:∀W,(Op.stringOp .add ⟨R5.toArray⟩ ⟨#[32,100,117,101,32]⟩).run Tryz.prog W=.ok (.string ⟨D1.toArray⟩) W:=fun W=>by rw[hD1];exact add_text W R5 [32,100,117,101,32] (by simp only[lC,lN];omega)
       have t6:∀W,(Op.stringOp .add ⟨D1.toArray⟩ ⟨D.toArray⟩).run Tryz.prog W=.ok (.string ⟨D2.toArray⟩) W:=fun W=>by rw[hD2];exact add_text W D1 D (by omega)
       have C1:TextIs wr 60 #[.int .i64 pdx] N:=⟨fun w' h=>by rw[hN];exact num_ref pdx (hrt rfl).1 hpd.2 w'⟩
       have C2:TextIs wr 60 #[.int .i64 sx] M:=⟨fun w' h=>by rw[hM];exact num_ref sx (hrt rfl).2 hst.2 w'⟩
       have C3:TextIs wr 60 #[.int .i64 dx] D:=⟨fun w' h=>by rw[hD];exact num_ref dx (by omega) hdu.2 w'⟩
       clear hbz hR1 hR2 hR3 hR4 hR5 hD1 hD2 lR1 lR2 lR3 lR4 lR5 lD1 lD2 hN hM hD
       go_wp2_with fail
       go_region_held3 (fun w'=>w'.cell? ⟨bA,oA+4,none⟩=some (.int .i64 pdx)∧w'.cell? ⟨bA,oA+5,none⟩=some (.int .i64 sx)∧bA<w'.heap.size) (go_simp) ((refine Calls.mono (TextIs.out (W0:=wr) (by assumption) _ (by first|assumption|exact gr_below (by with_reducible repeat first|exact Gr.refl _|refine Gr.alloc ?_ _|refine Gr.drewN ?_ _|refine Gr.drew ?_|refine Gr.later ?_ _ _))) ?_;rintro r w5 ⟨rfl,hb5⟩;have hB5:=grow_on (W:=wr) (by first|assumption|exact gr_below (by with_reducible repeat first|exact Gr.refl _|refine Gr.alloc ?_ _|refine Gr.drewN ?_ _|refine Gr.drew ?_|refine Gr.later ?_ _ _)) hb5;have m4:=K4.out w5 hB5;have m5:=K5.out w5 hB5;have m6:=K6.out w5 hB5;have mb:bA<w5.heap.size:=Nat.lt_of_lt_of_le hbw hB5.out.size;clear hb5))
       go_wp2_with fail
       refine Calls.mono (C3.out _ (by first|assumption|exact gr_below (by with_reducible repeat first|exact Gr.refl _|refine Gr.alloc ?_ _|refine Gr.drewN ?_ _|refine Gr.drew ?_|refine Gr.later ?_ _ _))) ?_
       rintro r w6 ⟨rfl,hb6⟩
       have hB6:=grow_on (W:=wr) (by first|assumption|exact gr_below (by with_reducible repeat first|exact Gr.refl _|refine Gr.alloc ?_ _|refine Gr.drewN ?_ _|refine Gr.drew ?_|refine Gr.later ?_ _ _)) hb6
       clear hb6
       go_wp2_with fail
       go_roundw
       case rel=>exact⟨1,by omega,by go_num,by rw[←HSZ.out,HZ.out],HB.out.trans (hB6.out.mono HS.out)⟩
       case measure=>simp[intOf];omega
      ·obtain⟨N,hN⟩:=nw (Lib.itoa pdx)
       obtain⟨M,hM⟩:=nw (Lib.itoa sx)
       obtain⟨R1,hR1⟩:=nw (S4++[32,114,97,116,101,32,40])
       obtain⟨R2,hR2⟩:=nw (R1++N)
       obtain⟨R3,hR3⟩:=nw (R2++[44,32])
       obtain⟨R4,hR4⟩:=nw (R3++M)
       obtain⟨R5,hR5⟩:=nw (R4++[41])
       have HZ:Hid (SZ=R5):=by
        rw[Hid,HS4.out,hR5,hR4,hR3,hR2,hR1,hN,hM]
        simp[rateText,dueText,hd0]
       have hbz:=HBL.out
       rw[HZ.out] at hbz
       have lR1:R1.length=S4.length+([32,114,97,116,101,32,40]:List UInt8).length:=by rw[hR1,List.length_append]
       have lR2:R2.length=R1.length+(N:List UInt8).length:=by rw[hR2,List.length_append]
       have lR3:R3.length=R2.length+([44,32]:List UInt8).length:=by rw[hR3,List.length_append]
       have lR4:R4.length=R3.length+(M:List UInt8).length:=by rw[hR4,List.length_append]
       have lR5:R5.length=R4.length+([41]:List UInt8).length:=by rw[hR5,List.length_append]
       simp only[lC,lN] at lR1 lR3 lR5
       have t0:∀W,(Op.stringOp .add ⟨S4.toArray⟩ ⟨#[32,114,97,116,101,32,40]⟩).run Tryz.prog W=.ok (.string ⟨R1.toArray⟩) W:=fun W=>by rw[hR1];exact add_text W S4 [32,114,97,116,101,32,40] (by simp only[lC,lN];omega)
       have t1:∀W,(Op.stringOp .add ⟨R1.toArray⟩ ⟨N.toArray⟩).run Tryz.prog W=.ok (.string ⟨R2.toArray⟩) W:=fun W=>by rw[hR2];exact add_text W R1 N (by omega)
       have t2:∀W,(Op.stringOp .add ⟨R2.toArray⟩ ⟨#[44,32]⟩).run Tryz.prog W=.ok (.string ⟨R3.toArray⟩) W:=fun W=>by rw[hR3];exact add_text W R2 [44,32] (by simp only[lC,lN];omega)
       have t3:∀W,(Op.stringOp .add ⟨R3.toArray⟩ ⟨M.toArray⟩).run Tryz.prog W=.ok (.string ⟨R4.toArray⟩) W:=fun W=>by rw[hR4];exact add_text W R3 M (by omega)
       have t4:∀W,(Op.stringOp .add ⟨R4.toArray⟩ ⟨#[41]⟩).run Tryz.prog W=.ok (.string ⟨R5.toArray⟩) W:=fun W=>by rw[hR5];exact add_text W R4 [41] (by simp only[lC,lN];omega)
       have C1:TextIs wr 60 #[.int .i64 pdx] N:=⟨fun w' h=>by rw[hN];exact num_ref pdx (hrt rfl).1 hpd.2 w'⟩
       have C2:TextIs wr 60 #[.int .i64 sx] M:=⟨fun w' h=>by rw[hM];exact num_ref sx (hrt rfl).2 hst.2 w'⟩
       clear hbz hR1 hR2 hR3 hR4 hR5 lR1 lR2 lR3 lR4 lR5 hN hM
       go_wp2_with fail
       go_region_held3 (fun w'=>w'.cell? ⟨bA,oA+4,none⟩=some (.int .i64 pdx)∧w'.cell? ⟨bA,oA+5,none⟩=some (.int .i64 sx)∧bA<w'.heap.size) (go_simp) ((refine Calls.mono (TextIs.out (W0:=wr) (by assumption) _ (by first|assumption|exact gr_below (by with_reducible repeat first|exact Gr.refl _|refine Gr.alloc ?_ _|refine Gr.drewN ?_ _|refine Gr.drew ?_|refine Gr.later ?_ _ _))) ?_;rintro r w5 ⟨rfl,hb5⟩;have hB5:=grow_on (W:=wr) (by first|assumption|exact gr_below (by with_reducible repeat first|exact Gr.refl _|refine Gr.alloc ?_ _|refine Gr.drewN ?_ _|refine Gr.drew ?_|refine Gr.later ?_ _ _)) hb5;have m4:=K4.out w5 hB5;have m5:=K5.out w5 hB5;have m6:=K6.out w5 hB5;have mb:bA<w5.heap.size:=Nat.lt_of_lt_of_le hbw hB5.out.size;clear hb5))
       go_wp2_with fail
       go_roundw
       case rel=>exact⟨1,by omega,by go_num,by rw[←HSZ.out,HZ.out],HB.out.trans (hB5.out.mono HS.out)⟩
       case measure=>simp[intOf];omega
    ·obtain⟨S2,hS2⟩:=nw (S0++nx.data.toList)
     obtain⟨S3,hS3⟩:=nw (S2++[58,32])
     obtain⟨S4,hS4⟩:=nw (S3++[98,111,111,108])
     have HS4:Hid (SZ=S4++(rateText rx pdx sx++dueText dx)):=by
      rw[Hid,hSZ,hS4,hS3,hS2]
      simp[kindText]
     have hb4:S4.length≤1000000000:=by
      have:=hbl
      rw[HS4.out,List.length_append] at this
      omega
     have lS2:S2.length=S0.length+(nx.data.toList:List UInt8).length:=by rw[hS2,List.length_append]
     have lS3:S3.length=S2.length+([58,32]:List UInt8).length:=by rw[hS3,List.length_append]
     have lS4:S4.length=S3.length+([98,111,111,108]:List UInt8).length:=by rw[hS4,List.length_append]
     simp only[lC,lN] at lS3 lS4
     have s0:∀W,(Op.stringOp .add ⟨S0.toArray⟩ nx).run Tryz.prog W=.ok (.string ⟨S2.toArray⟩) W:=fun W=>by rw[hS2];exact add_name W S0 nx (by omega)
     have s1:∀W,(Op.stringOp .add ⟨S2.toArray⟩ ⟨#[58,32]⟩).run Tryz.prog W=.ok (.string ⟨S3.toArray⟩) W:=fun W=>by rw[hS3];exact add_text W S2 [58,32] (by simp only[lC,lN];omega)
     have s2:∀W,(Op.stringOp .add ⟨S3.toArray⟩ ⟨#[98,111,111,108]⟩).run Tryz.prog W=.ok (.string ⟨S4.toArray⟩) W:=fun W=>by rw[hS4];exact add_text W S3 [98,111,111,108] (by simp only[lC,lN];omega)
     clear hSZ hS0 hbl hb4 hS2 hS3 hS4
     have hl4:S4.length≤1000000000:=by have:=HBL.out;rw[HS4.out,List.length_append] at this;omega
     have hw0:IntKind.u8.wrap 1=1:=rfl
     go_wp2_with fail
     apply wp_cut (W:=(wr.alloc (.cells #[.string ⟨#[105,110,116]⟩,.string ⟨#[98,111,111,108]⟩] 9)).drew)
     ·go_region_law (go_simp)
      all_goals exact⟨rfl,rfl,rfl⟩
     cases rx
     ·by_cases hd0:0<dx
      ·obtain⟨D,hD⟩:=nw (Lib.itoa dx)
       obtain⟨D1,hD1⟩:=nw (S4++[32,100,117,101,32])
       obtain⟨D2,hD2⟩:=nw (D1++D)
       have HZ:Hid (SZ=D2):=by
        rw[Hid,HS4.out,hD2,hD1,hD]
        simp[rateText,dueText,hd0]
       have hbz:=HBL.out
       rw[HZ.out] at hbz
       have lD1:D1.length=S4.length+([32,100,117,101,32]:List UInt8).length:=by rw[hD1,List.length_append]
       have lD2:D2.length=D1.length+(D:List UInt8).length:=by rw[hD2,List.length_append]
       simp only[lC,lN] at lD1
       have t0:∀W,(Op.stringOp .add ⟨S4.toArray⟩ ⟨#[32,100,117,101,32]⟩).run Tryz.prog W=.ok (.string ⟨D1.toArray⟩) W:=fun W=>by rw[hD1];exact add_text W S4 [32,100,117,101,32] (by simp only[lC,lN];omega)
       have t1:∀W,(Op.stringOp .add ⟨D1.toArray⟩ ⟨D.toArray⟩).run Tryz.prog W=.ok (.string ⟨D2.toArray⟩) W:=fun W=>by rw[hD2];exact add_text W D1 D (by omega)
       have C3:TextIs wr 60 #[.int .i64 dx] D:=⟨fun w' h=>by rw[hD];exact num_ref dx (by omega) hdu.2 w'⟩
       clear hbz hD1 hD2 lD1 lD2 hD
       go_wp2_with fail
       refine Calls.mono (C3.out _ (by first|assumption|exact gr_below (by with_reducible repeat first|exact Gr.refl _|refine Gr.alloc ?_ _|refine Gr.drewN ?_ _|refine Gr.drew ?_|refine Gr.later ?_ _ _))) ?_
       rintro r w6 ⟨rfl,hb6⟩
       have hB6:=grow_on (W:=wr) (by first|assumption|exact gr_below (by with_reducible repeat first|exact Gr.refl _|refine Gr.alloc ?_ _|refine Gr.drewN ?_ _|refine Gr.drew ?_|refine Gr.later ?_ _ _)) hb6
       clear hb6
       go_wp2_with fail
       go_roundw
       case rel=>exact⟨1,by omega,by go_num,by rw[←HSZ.out,HZ.out],HB.out.trans (hB6.out.mono HS.out)⟩
       case measure=>simp[intOf];omega
      ·have HZ:Hid (SZ=S4):=by
        rw[Hid,HS4.out]
        simp[rateText,dueText,hd0]
       have hbz:=HBL.out
       rw[HZ.out] at hbz
       clear hbz
       go_wp2_with fail
       go_roundw
       case rel=>exact⟨1,by omega,by go_num,by rw[←HSZ.out,HZ.out],HB.out.trans ((gr_below (by with_reducible repeat first|exact Gr.refl _|refine Gr.alloc ?_ _|refine Gr.drewN ?_ _|refine Gr.drew ?_|refine Gr.later ?_ _ _)).mono HS.out)⟩
       case measure=>simp[intOf];omega
     ·by_cases hd0:0<dx
      ·obtain⟨N,hN⟩:=nw (Lib.itoa pdx)
       obtain⟨M,hM⟩:=nw (Lib.itoa sx)
       obtain⟨D,hD⟩:=nw (Lib.itoa dx)
       obtain⟨R1,hR1⟩:=nw (S4++[32,114,97,116,101,32,40])
       obtain⟨R2,hR2⟩:=nw (R1++N)
       obtain⟨R3,hR3⟩:=nw (R2++[44,32])
       obtain⟨R4,hR4⟩:=nw (R3++M)
       obtain⟨R5,hR5⟩:=nw (R4++[41])
       obtain⟨D1,hD1⟩:=nw (R5++[32,100,117,101,32])
       obtain⟨D2,hD2⟩:=nw (D1++D)
       have HZ:Hid (SZ=D2):=by
        rw[Hid,HS4.out,hD2,hD1,hR5,hR4,hR3,hR2,hR1,hN,hM,hD]
        simp[rateText,dueText,hd0]
       have hbz:=HBL.out
       rw[HZ.out] at hbz
       have lR1:R1.length=S4.length+([32,114,97,116,101,32,40]:List UInt8).length:=by rw[hR1,List.length_append]
       have lR2:R2.length=R1.length+(N:List UInt8).length:=by rw[hR2,List.length_append]
       have lR3:R3.length=R2.length+([44,32]:List UInt8).length:=by rw[hR3,List.length_append]
       have lR4:R4.length=R3.length+(M:List UInt8).length:=by rw[hR4,List.length_append]
       have lR5:R5.length=R4.length+([41]:List UInt8).length:=by rw[hR5,List.length_append]
       have lD1:D1.length=R5.length+([32,100,117,101,32]:List UInt8).length:=by rw[hD1,List.length_append]
       have lD2:D2.length=D1.length+(D:List UInt8).length:=by rw[hD2,List.length_append]
       simp only[lC,lN] at lR1 lR3 lR5 lD1
       have t0:∀W,(Op.stringOp .add ⟨S4.toArray⟩ ⟨#[32,114,97,116,101,32,40]⟩).run Tryz.prog W=.ok (.string ⟨R1.toArray⟩) W:=fun W=>by rw[hR1];exact add_text W S4 [32,114,97,116,101,32,40] (by simp only[lC,lN];omega)
       have t1:∀W,(Op.stringOp .add ⟨R1.toArray⟩ ⟨N.toArray⟩).run Tryz.prog W=.ok (.string ⟨R2.toArray⟩) W:=fun W=>by rw[hR2];exact add_text W R1 N (by omega)
       have t2:∀W,(Op.stringOp .add ⟨R2.toArray⟩ ⟨#[44,32]⟩).run Tryz.prog W=.ok (.string ⟨R3.toArray⟩) W:=fun W=>by rw[hR3];exact add_text W R2 [44,32] (by simp only[lC,lN];omega)
       have t3:∀W,(Op.stringOp .add ⟨R3.toArray⟩ ⟨M.toArray⟩).run Tryz.prog W=.ok (.string ⟨R4.toArray⟩) W:=fun W=>by rw[hR4];exact add_text W R3 M (by omega)
       have t4:∀W,(Op.stringOp .add ⟨R4.toArray⟩ ⟨#[41]⟩).run Tryz.prog W=.ok (.string ⟨R5.toArray⟩) W:=fun W=>by rw[hR5];exact add_text W R4 [41] (by simp only[lC,lN];omega)
       have t5:∀W,(Op.stringOp .add ⟨R5.toArray⟩ ⟨#[32,100,117,101,32]⟩).run Tryz.prog W=.ok (.string ⟨D1.toArray⟩) W:=fun W=>by rw[hD1];exact add_text W R5 [32,100,117,101,32] (by simp only[lC,lN];omega)
       have t6:∀W,(Op.stringOp .add ⟨D1.toArray⟩ ⟨D.toArray⟩).run Tryz.prog W=.ok (.string ⟨D2.toArray⟩) W:=fun W=>by rw[hD2];exact add_text W D1 D (by omega)
       have C1:TextIs wr 60 #[.int .i64 pdx] N:=⟨fun w' h=>by rw[hN];exact num_ref pdx (hrt rfl).1 hpd.2 w'⟩
       have C2:TextIs wr 60 #[.int .i64 sx] M:=⟨fun w' h=>by rw[hM];exact num_ref sx (hrt rfl).2 hst.2 w'⟩
       have C3:TextIs wr 60 #[.int .i64 dx] D:=⟨fun w' h=>by rw[hD];exact num_ref dx (by omega) hdu.2 w'⟩
       clear hbz hR1 hR2 hR3 hR4 hR5 hD1 hD2 lR1 lR2 lR3 lR4 lR5 lD1 lD2 hN hM hD
       go_wp2_with fail
       go_region_held3 (fun w'=>w'.cell? ⟨bA,oA+4,none⟩=some (.int .i64 pdx)∧w'.cell? ⟨bA,oA+5,none⟩=some (.int .i64 sx)∧bA<w'.heap.size) (go_simp) ((refine Calls.mono (TextIs.out (W0:=wr) (by assumption) _ (by first|assumption|exact gr_below (by with_reducible repeat first|exact Gr.refl _|refine Gr.alloc ?_ _|refine Gr.drewN ?_ _|refine Gr.drew ?_|refine Gr.later ?_ _ _))) ?_;rintro r w5 ⟨rfl,hb5⟩;have hB5:=grow_on (W:=wr) (by first|assumption|exact gr_below (by with_reducible repeat first|exact Gr.refl _|refine Gr.alloc ?_ _|refine Gr.drewN ?_ _|refine Gr.drew ?_|refine Gr.later ?_ _ _)) hb5;have m4:=K4.out w5 hB5;have m5:=K5.out w5 hB5;have m6:=K6.out w5 hB5;have mb:bA<w5.heap.size:=Nat.lt_of_lt_of_le hbw hB5.out.size;clear hb5))
       go_wp2_with fail
       refine Calls.mono (C3.out _ (by first|assumption|exact gr_below (by with_reducible repeat first|exact Gr.refl _|refine Gr.alloc ?_ _|refine Gr.drewN ?_ _|refine Gr.drew ?_|refine Gr.later ?_ _ _))) ?_
       rintro r w6 ⟨rfl,hb6⟩
       have hB6:=grow_on (W:=wr) (by first|assumption|exact gr_below (by with_reducible repeat first|exact Gr.refl _|refine Gr.alloc ?_ _|refine Gr.drewN ?_ _|refine Gr.drew ?_|refine Gr.later ?_ _ _)) hb6
       clear hb6
       go_wp2_with fail
       go_roundw
       case rel=>exact⟨1,by omega,by go_num,by rw[←HSZ.out,HZ.out],HB.out.trans (hB6.out.mono HS.out)⟩
       case measure=>simp[intOf];omega
      ·obtain⟨N,hN⟩:=nw (Lib.itoa pdx)
       obtain⟨M,hM⟩:=nw (Lib.itoa sx)
       obtain⟨R1,hR1⟩:=nw (S4++[32,114,97,116,101,32,40])
       obtain⟨R2,hR2⟩:=nw (R1++N)
       obtain⟨R3,hR3⟩:=nw (R2++[44,32])
       obtain⟨R4,hR4⟩:=nw (R3++M)
       obtain⟨R5,hR5⟩:=nw (R4++[41])
       have HZ:Hid (SZ=R5):=by
        rw[Hid,HS4.out,hR5,hR4,hR3,hR2,hR1,hN,hM]
        simp[rateText,dueText,hd0]
       have hbz:=HBL.out
       rw[HZ.out] at hbz
       have lR1:R1.length=S4.length+([32,114,97,116,101,32,40]:List UInt8).length:=by rw[hR1,List.length_append]
       have lR2:R2.length=R1.length+(N:List UInt8).length:=by rw[hR2,List.length_append]
       have lR3:R3.length=R2.length+([44,32]:List UInt8).length:=by rw[hR3,List.length_append]
       have lR4:R4.length=R3.length+(M:List UInt8).length:=by rw[hR4,List.length_append]
       have lR5:R5.length=R4.length+([41]:List UInt8).length:=by rw[hR5,List.length_append]
       simp only[lC,lN] at lR1 lR3 lR5
       have t0:∀W,(Op.stringOp .add ⟨S4.toArray⟩ ⟨#[32,114,97,116,101,32,40]⟩).run Tryz.prog W=.ok (.string ⟨R1.toArray⟩) W:=fun W=>by rw[hR1];exact add_text W S4 [32,114,97,116,101,32,40] (by simp only[lC,lN];omega)
       have t1:∀W,(Op.stringOp .add ⟨R1.toArray⟩ ⟨N.toArray⟩).run Tryz.prog W=.ok (.string ⟨R2.toArray⟩) W:=fun W=>by rw[hR2];exact add_text W R1 N (by omega)
       have t2:∀W,(Op.stringOp .add ⟨R2.toArray⟩ ⟨#[44,32]⟩).run Tryz.prog W=.ok (.string ⟨R3.toArray⟩) W:=fun W=>by rw[hR3];exact add_text W R2 [44,32] (by simp only[lC,lN];omega)
       have t3:∀W,(Op.stringOp .add ⟨R3.toArray⟩ ⟨M.toArray⟩).run Tryz.prog W=.ok (.string ⟨R4.toArray⟩) W:=fun W=>by rw[hR4];exact add_text W R3 M (by omega)
       have t4:∀W,(Op.stringOp .add ⟨R4.toArray⟩ ⟨#[41]⟩).run Tryz.prog W=.ok (.string ⟨R5.toArray⟩) W:=fun W=>by rw[hR5];exact add_text W R4 [41] (by simp only[lC,lN];omega)
       have C1:TextIs wr 60 #[.int .i64 pdx] N:=⟨fun w' h=>by rw[hN];exact num_ref pdx (hrt rfl).1 hpd.2 w'⟩
       have C2:TextIs wr 60 #[.int .i64 sx] M:=⟨fun w' h=>by rw[hM];exact num_ref sx (hrt rfl).2 hst.2 w'⟩
       clear hbz hR1 hR2 hR3 hR4 hR5 lR1 lR2 lR3 lR4 lR5 hN hM
       go_wp2_with fail
       go_region_held3 (fun w'=>w'.cell? ⟨bA,oA+4,none⟩=some (.int .i64 pdx)∧w'.cell? ⟨bA,oA+5,none⟩=some (.int .i64 sx)∧bA<w'.heap.size) (go_simp) ((refine Calls.mono (TextIs.out (W0:=wr) (by assumption) _ (by first|assumption|exact gr_below (by with_reducible repeat first|exact Gr.refl _|refine Gr.alloc ?_ _|refine Gr.drewN ?_ _|refine Gr.drew ?_|refine Gr.later ?_ _ _))) ?_;rintro r w5 ⟨rfl,hb5⟩;have hB5:=grow_on (W:=wr) (by first|assumption|exact gr_below (by with_reducible repeat first|exact Gr.refl _|refine Gr.alloc ?_ _|refine Gr.drewN ?_ _|refine Gr.drew ?_|refine Gr.later ?_ _ _)) hb5;have m4:=K4.out w5 hB5;have m5:=K5.out w5 hB5;have m6:=K6.out w5 hB5;have mb:bA<w5.heap.size:=Nat.lt_of_lt_of_le hbw hB5.out.size;clear hb5))
       go_wp2_with fail
       go_roundw
       case rel=>exact⟨1,by omega,by go_num,by rw[←HSZ.out,HZ.out],HB.out.trans (hB5.out.mono HS.out)⟩
       case measure=>simp[intOf];omega
  ·obtain rfl:k=n:=by omega
   have HE:Hid (between [59,32] (ts.take k)=between [59,32] ts):=by rw[Hid,←HLen.out,List.take_length]
   rw[HE.out]
   obtain⟨R0,hR0⟩:=nw (between [59,32] ts)
   have HR0:Hid _:=hR0
   rw[←hR0]
   clear hR0
   go_wp2_with fail
   go_ret
   exact⟨by rw[←HR0.out];rfl,HB.out⟩
end Go.Proofs.YthbgnpkgglbhjaaGreatDoor
