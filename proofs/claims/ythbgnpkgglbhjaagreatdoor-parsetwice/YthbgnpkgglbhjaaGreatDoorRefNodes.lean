import Derived.Test.YthbgnpkgglbhjaaGreatDoorRefPms
import Derived.Test.YthbgnpkgglbhjaaGreatDoorRefTextAll
namespace Go.Proofs.YthbgnpkgglbhjaaGreatDoor
open Go.RowKit
open Ex.size Ex.depth Ex.lies Ex.bulk Ex.good Ex.shape Ex.text
def RPms(l:List Pm)(a:Option Addr)(c:Nat):Prop:=∀w,rowIn Pm.cells 7 w a l→Calls Tryz.prog 44 #[.slice a l.length c] w fun r w'=>r=.returned (.string ⟨(pmsText l).toArray⟩)∧Below w.heap.size w w'
def joinTo(ns:List ByteArray)(k:Nat):List UInt8:=between [44,32] ((ns.take k).map (·.data.toList))
theorem join_at(ns:List ByteArray)(k:Nat)(h0:0<k)(h:k<ns.length):joinTo ns (k+1)=joinTo ns k++[44,32]++ns[k].data.toList:=by
 have h1:=between_at [44,32] (ns.map (·.data.toList)) k (by simpa using h)
 rw[if_pos h0] at h1
 simp only[←List.map_take,List.getElem_map] at h1
 exact h1
theorem join_one1(x:ByteArray)(r:List ByteArray):joinTo (x::r) 1=x.data.toList:=by simp[joinTo,between,rests]
theorem join_le(ns:List ByteArray)(k:Nat):(joinTo ns k).length≤(between [44,32] (ns.map (·.data.toList))).length:=by
 have:=between_len_take [44,32] (ns.map (·.data.toList)) k
 rw[←List.map_take] at this
 exact this
theorem left_join(ns:List ByteArray):leftOf ns=if ns.length=1 then joinTo ns ns.length else [40]++joinTo ns ns.length++[41]:=by
 unfold leftOf joinTo
 rw[List.take_length]
set_option maxRecDepth 100000 in
set_option maxHeartbeats 25600000 in
theorem node_ref_x0(fl:Bool){nm:ByteArray}{pl:Int}{ia oa va qa:Option Addr}{ic oc vc qc:Nat}{ins outs:List Pm}{eqs:List Eqn}(hin:RPms ins ia ic)(hout:RPms outs oa oc)(hn:eqs.length≤1048576)(hq:∀q∈eqs,RText q.e∧1≤q.ns.length∧q.ns.length≤32)(hlen:(Nd.text ⟨fl,nm,pl,ia,ic,ins,oa,oc,outs,va,vc,[],qa,qc,eqs⟩).length≤1000000000)(w:World)(hl:Nd.lies w ⟨fl,nm,pl,ia,ic,ins,oa,oc,outs,va,vc,[],qa,qc,eqs⟩) :
  Calls Tryz.prog 24 #[Nd.val ⟨fl,nm,pl,ia,ic,ins,oa,oc,outs,va,vc,[],qa,qc,eqs⟩] w fun r w'=>r=.returned (.string ⟨(Nd.text ⟨fl,nm,pl,ia,ic,ins,oa,oc,outs,va,vc,[],qa,qc,eqs⟩).toArray⟩)∧Below w.heap.size w w':=by
 obtain⟨Hd,hHd⟩:∃H:List UInt8,H=cond fl [102,108,111,119,32] [110,111,100,101,32]:=⟨_,rfl⟩
 have hHl:Hd.length=5:=by rw[hHd];cases fl<;>rfl
 obtain⟨hl1,hl2,hl3,hl4,hl5⟩:=hl
 obtain⟨ts,hts⟩:=nw (eqs.map Eqn.text)
 have HTS:Hid _:=hts
 obtain⟨I,hI⟩:=nw (pmsText ins)
 obtain⟨O,hO⟩:=nw (pmsText outs)
 obtain⟨T1,hT1⟩:∃T:List UInt8,T=Hd++nm.data.toList:=⟨_,rfl⟩
 obtain⟨T2,hT2⟩:∃T:List UInt8,T=T1++[40]:=⟨_,rfl⟩
 obtain⟨T3,hT3⟩:∃T:List UInt8,T=T2++I:=⟨_,rfl⟩
 obtain⟨T4,hT4⟩:∃T:List UInt8,T=T3++[41,32,114,101,116,117,114,110,115,32,40]:=⟨_,rfl⟩
 obtain⟨T5,hT5⟩:∃T:List UInt8,T=T4++O:=⟨_,rfl⟩
 obtain⟨T6,hT6⟩:∃T:List UInt8,T=T5++[41,10]:=⟨_,rfl⟩
 obtain⟨L1,hL1⟩:∃T:List UInt8,T=T6++[108,101,116,10]:=⟨_,rfl⟩
 have HT:Hid (Nd.text ⟨fl,nm,pl,ia,ic,ins,oa,oc,outs,va,vc,[],qa,qc,eqs⟩=(L1++ts.flatten)++[116,101,108,10]):=by
  rw[Hid,hts,hL1,hT6,hT5,hT4,hT3,hT2,hT1,hHd,hI,hO,Nd.text]
  cases fl<;>simp[eqsText]
 rw[HT.out] at hlen ⊢
 have HLe:=hid hlen
 have hLl:L1.length≤1000000000:=by simp only[List.length_append] at hlen;omega
 have lT1:T1.length=Hd.length+(nm.data.toList:List UInt8).length:=by rw[hT1,List.length_append]
 have lT2:T2.length=(T1:List UInt8).length+([40]:List UInt8).length:=by rw[hT2,List.length_append]
 have lT3:T3.length=(T2:List UInt8).length+(I:List UInt8).length:=by rw[hT3,List.length_append]
 have lT4:T4.length=(T3:List UInt8).length+([41,32,114,101,116,117,114,110,115,32,40]:List UInt8).length:=by rw[hT4,List.length_append]
 have lT5:T5.length=(T4:List UInt8).length+(O:List UInt8).length:=by rw[hT5,List.length_append]
 have lT6:T6.length=(T5:List UInt8).length+([41,10]:List UInt8).length:=by rw[hT6,List.length_append]
 have lL1:L1.length=(T6:List UInt8).length+([108,101,116,10]:List UInt8).length:=by rw[hL1,List.length_append]
 simp only[lC,lN,hHl] at lT1 lT2 lT4 lT6 lL1
 have s0:∀W,(Op.stringOp .add ⟨Hd.toArray⟩ nm).run Tryz.prog W=.ok (.string ⟨T1.toArray⟩) W:=fun W=>by rw[hT1];exact add_name W Hd nm (by omega)
 have s1:∀W,(Op.stringOp .add ⟨T1.toArray⟩ ⟨#[40]⟩).run Tryz.prog W=.ok (.string ⟨T2.toArray⟩) W:=fun W=>by rw[hT2];exact add_text W T1 [40] (by simp only[lC,lN];omega)
 have s2:∀W,(Op.stringOp .add ⟨T2.toArray⟩ ⟨I.toArray⟩).run Tryz.prog W=.ok (.string ⟨T3.toArray⟩) W:=fun W=>by rw[hT3];exact add_text W T2 I (by omega)
 have s3:∀W,(Op.stringOp .add ⟨T3.toArray⟩ ⟨#[41,32,114,101,116,117,114,110,115,32,40]⟩).run Tryz.prog W=.ok (.string ⟨T4.toArray⟩) W:=fun W=>by rw[hT4];exact add_text W T3 [41,32,114,101,116,117,114,110,115,32,40] (by simp only[lC,lN];omega)
 have s4:∀W,(Op.stringOp .add ⟨T4.toArray⟩ ⟨O.toArray⟩).run Tryz.prog W=.ok (.string ⟨T5.toArray⟩) W:=fun W=>by rw[hT5];exact add_text W T4 O (by omega)
 have s5:∀W,(Op.stringOp .add ⟨T5.toArray⟩ ⟨#[41,10]⟩).run Tryz.prog W=.ok (.string ⟨T6.toArray⟩) W:=fun W=>by rw[hT6];exact add_text W T5 [41,10] (by simp only[lC,lN];omega)
 have s6:∀W,(Op.stringOp .add ⟨T6.toArray⟩ ⟨#[108,101,116,10]⟩).run Tryz.prog W=.ok (.string ⟨L1.toArray⟩) W:=fun W=>by rw[hL1];exact add_text W T6 [108,101,116,10] (by simp only[lC,lN];omega)
 obtain⟨n,hn2⟩:=nw (eqs.length)
 obtain⟨n1,hn3⟩:=nw (ins.length)
 obtain⟨n2,hn4⟩:=nw (outs.length)
 obtain⟨W0,hW0⟩:=nw (w.alloc (.cells #[.bool fl,.string nm,.int .i64 pl,.slice ia n1 ic,.slice oa n2 oc,.slice va 0 vc,.slice qa n qc] 60))
 have hb0:Below w.heap.size w W0:=by rw[hW0];exact bal _
 have hs0:W0.heap.size=w.heap.size+1:=by rw[hW0];simp
 have hbx:W0.heap[w.heap.size]?=some (.cells #[.bool fl,.string nm,.int .i64 pl,.slice ia n1 ic,.slice oa n2 oc,.slice va 0 vc,.slice qa n qc] 60 (0,0)):=by rw[hW0];exact heap_at rfl
 have up:∀w',Hid (Below W0.heap.size W0 w')→Below w.heap.size w w':=fun w' h=>hb0.trans (h.out.mono (by omega))
 have C1:TextIs W0 44 #[.slice ia n1 ic] I:=⟨fun w' h=>by rw[hI,hn3];exact hin w' (rowIn_below hl1 (up w' h))⟩
 have C2:TextIs W0 44 #[.slice oa n2 oc] O:=⟨fun w' h=>by rw[hO,hn4];exact hout w' (rowIn_below hl2 (up w' h))⟩
 have B1:Hid _:=keep_cell (show W0.cell? ⟨w.heap.size,1,none⟩=some (.string nm) by rw[cell_of_row hbx];rfl)
 have B3:Hid _:=keep_cell (show W0.cell? ⟨w.heap.size,3,none⟩=some (.slice ia n1 ic) by rw[cell_of_row hbx];rfl)
 have B4:Hid _:=keep_cell (show W0.cell? ⟨w.heap.size,4,none⟩=some (.slice oa n2 oc) by rw[cell_of_row hbx];rfl)
 have B5:Hid _:=keep_cell (show W0.cell? ⟨w.heap.size,5,none⟩=some (.slice va 0 vc) by rw[cell_of_row hbx];rfl)
 have B6:Hid _:=keep_cell (show W0.cell? ⟨w.heap.size,6,none⟩=some (.slice qa n qc) by rw[cell_of_row hbx];rfl)
 have HN:=hid hn2
 have HLen:Hid (ts.length=n):=by rw[Hid,hts,List.length_map,hn2]
 have HQ:Hid _:=hq
 have HL4:Hid _:=hl4
 have HL5:Hid _:=hl5
 have HUp:Hid _:=up
 have HE0:Hid _:=hW0
 have HB0:Hid _:=hb0
 have HS0:Hid _:=hs0
 have hnb:n≤1048576:=by rw[hn2];exact hn
 simp only[Nd.val,Nd.cells,List.toArray,List.length_nil,←hn2,←hn3,←hn4]
 have HBz:Hid (Below W0.heap.size W0 W0):=Below.refl _ _
 have f1:=B1.out W0 HBz
 have f3:=B3.out W0 HBz
 have f4:=B4.out W0 HBz
 have hwl:w.heap.size<W0.heap.size:=by omega
 cases fl
 all_goals
  dsimp only[cond] at hHd
  subst hHd
  clear hHl hts hI hO  hn2 hn3 hn4 hl1 hl2 hl3 hl4 hl5 hW0 hb0 hs0 hbx up hin hout hq hlen hn hT1 hT2 hT3 hT4 hT5 hT6 hL1 lT1 lT2 lT3 lT4 lT5 lT6 lL1
  clear hLl
  go_enter Tryz.func24,Tryz.ntmps24
  go_wp2_with fail
  rw[←HE0.out]
  have HBd:=hid (((Gr.refl W0).drew).below)
  have g1:=B1.out W0.drew HBd
  have g3:=B3.out W0.drew HBd
  have g4:=B4.out W0.drew HBd
  go_region_held3 (fun w'=>w'.cell? ⟨w.heap.size,1,none⟩=some (.string nm)∧w'.cell? ⟨w.heap.size,3,none⟩=some (.slice ia n1 ic)∧w'.cell? ⟨w.heap.size,4,none⟩=some (.slice oa n2 oc)) (go_simp) ((refine Calls.mono (TextIs.out (W0:=W0) (by assumption) _ (by assumption)) ?_;rintro r w5 ⟨rfl,hb5⟩;have hB5:=grow_on (W:=W0) (by assumption) hb5;have m1:=B1.out w5 hB5;have m3:=B3.out w5 hB5;have m4:=B4.out w5 hB5;have m5:=B5.out w5 hB5;have m6:=B6.out w5 hB5;clear hb5))
  go_wp2_with fail
  go_loopw [3,4] (fun s i wr=>∃k:Nat,k≤n∧i=.int .i64 k∧s=.string ⟨(L1++(ts.take k).flatten).toArray⟩∧Hid (Below W0.heap.size W0 wr)) (fun _ i _=>n-(intOf i).toNat)
  case atStart=>exact⟨0,by omega,rfl,by simp,hB5⟩
  case round =>
   obtain⟨k,hk,rfl,rfl,HB⟩:=hrel
   have b6:=B6.out wr HB
   by_cases hlt:k<n
   ·have hkl:k<eqs.length:=by rw[←HN.out];exact hlt
    have hkt:k<ts.length:=by rw[HLen.out];exact hlt
    obtain⟨bA,oA,rfl,hbA,hrow⟩:=HL4.out (by intro h;rw[h] at hkl;simp at hkl)
    have hcr:=old_cells (n:=8) (HUp.out wr HB) hbA (fun j hj=>hrow k hkl j hj)
    obtain⟨hns,hle⟩:=HL5.out eqs[k] (List.getElem_mem hkl)
    obtain⟨hRT,q1,q2⟩:=HQ.out eqs[k] (List.getElem_mem hkl)
    obtain⟨bN,oN,hna,hbN,hnm⟩:=names_row hns (by intro h;rw[h] at q1;simp at q1)
    have CT:=hRT wr (lies_below (HUp.out wr HB) _ hle)
    have HF:Hid ((ts.take (k+1)).flatten=(ts.take k).flatten++ts[k]):=flat_at2 _ _ hkt
    have hx:ts[k]=eqs[k].text:=by simp[HTS.out]
    have hbl:(L1++(ts.take (k+1)).flatten).length≤1000000000:=by
     have h1:=HLe.out
     have h2:ts.flatten=(ts.take (k+1)).flatten++(ts.drop (k+1)).flatten:=by rw[←List.flatten_append,List.take_append_drop]
     rw[h2] at h1
     simp only[List.length_append] at h1 ⊢
     omega
    obtain⟨Z0,hZ0⟩:=nw (L1++(ts.take k).flatten)
    obtain⟨ZZ,hZZ⟩:=nw (L1++(ts.take (k+1)).flatten)
    have HZZ:Hid _:=hZZ
    rw[←hZ0]
    rw[HF.out,hx,←List.append_assoc,←hZ0,eqn_text,left_join] at hZZ
    rw[←HZZ.out] at hbl
    have HNames:Hid (∀i (hi:i<eqs[k].ns.length),wr.cell? ⟨bN,oN+i,none⟩=some (.string eqs[k].ns[i])):=fun i hi=>((HUp.out wr HB).cell (p:=⟨bN,oN+i,none⟩) hbN).trans (hnm i hi)
    have hLJ:(joinTo eqs[k].ns eqs[k].ns.length).length+2≤1000000000:=by
     rw[hZZ] at hbl
     split at hbl<;>simp only[List.length_append,List.length_cons,List.length_nil] at hbl<;>omega
    have HJl:Hid (∀j,j≤eqs[k].ns.length→(joinTo eqs[k].ns j).length≤1000000000):=fun j hj=>by
     have:=join_le eqs[k].ns j
     unfold joinTo at hLJ ⊢
     rw[List.take_length] at hLJ
     unfold joinTo at this
     omega
    generalize eqs[k]=x at *
    obtain⟨nax,ncx,nsx,plx,e⟩:=x
    obtain⟨X,hX⟩:=nw (e.text)
    simp only at hns hna q1 q2 hZZ CT HNames hLJ HJl
    simp only[←hX] at CT hZZ
    obtain⟨ln,hln⟩:=nw (nsx.length)
    have HLN:Hid _:=hln
    have HZ1:Hid (ZZ=Z0++([32,32]++((if ln=1 then joinTo nsx ln else [40]++joinTo nsx ln++[41])++[32,61,32])++(X++[59,10]))):=by rw[Hid,hln];exact hZZ
    have HLJ:Hid ((joinTo nsx ln).length+2≤1000000000):=by rw[Hid,hln];exact hLJ
    have HBL:=hid hbl
    have hl1:1≤ln:=by rw[hln];exact q1
    have hl2:ln≤32:=by rw[hln];exact q2
    obtain rfl:=hna
    obtain⟨kx,px,nx,ix,dx,ax,cx,qx⟩:=e
    obtain⟨lx,hlx⟩:=nw (qx.length)
    simp only[Eqn.cells,Ex.val,Ex.cells,List.toArray,←hlx,←hln] at CT hcr
    have d0:wr.cell? ⟨bA,oA+k*8,none⟩=some (.slice (some ⟨bN,oN,none⟩) ln ncx):=hcr 0 (by omega)
    have d2:wr.cell? ⟨bA,oA+k*8+2,none⟩=some (.int .u8 kx):=hcr 2 (by omega)
    have d3:wr.cell? ⟨bA,oA+k*8+2+1,none⟩=some (.int .i64 px):=hcr 3 (by omega)
    have d4:wr.cell? ⟨bA,oA+k*8+2+2,none⟩=some (.string nx):=hcr 4 (by omega)
    have d5:wr.cell? ⟨bA,oA+k*8+2+3,none⟩=some (.int .i64 ix):=hcr 5 (by omega)
    have d6:wr.cell? ⟨bA,oA+k*8+2+4,none⟩=some (.int .i64 dx):=hcr 6 (by omega)
    have d7:wr.cell? ⟨bA,oA+k*8+2+5,none⟩=some (.slice ax lx cx):=hcr 7 (by omega)
    obtain⟨x0,rx,hx0⟩:∃x r,nsx=x::r:=by cases nsx with|nil=>simp at q1|cons x r=>exact⟨x,r,rfl⟩
    have n0:wr.cell? ⟨bN,oN,none⟩=some (.string x0):=by have:=HNames.out 0 (by omega);simpa [hx0] using this
    have HJ1:Hid (joinTo nsx 1=x0.data.toList):=by rw[Hid,hx0];exact join_one1 x0 rx
    clear hZZ hZ0 hbl hLJ hX hlx hcr hrow hns hle hRT q1 q2 hnm hx HF hkl hkt hbA hx0
    go_wp2_with fail
    have HBw:=hid HB
    have HSw:=hid (HB.out.size)
    go_loopw [6,7] (fun s i w2=>∃j:Nat,1≤j∧j≤ln∧i=.int .i64 j∧s=.string ⟨(joinTo nsx j).toArray⟩∧w2=wr) (fun _ i _=>ln-(intOf i).toNat)
    case atStart=>exact⟨1,Nat.le_refl _,hl1,rfl,by rw[HJ1.out],rfl⟩
    case round =>
     obtain⟨j,hj1,hj2,rfl,rfl,hw2⟩:=hrel
     subst hw2
     by_cases hjl:j<ln
     ·have hjn:j<nsx.length:=by rw[←HLN.out];exact hjl
      have hnj:=HNames.out j hjn
      have HJs:=hid (join_at nsx j hj1 hjn)
      have hbj:(joinTo nsx (j+1)).length≤1000000000:=HJl.out (j+1) (by rw[←HLN.out];omega)
      generalize nsx[j]=nj at hnj HJs
      obtain⟨J0,hJ0⟩:=nw (joinTo nsx j)
      rw[HJs.out,←hJ0] at hbj
      have HJ0:Hid _:=hJ0
      rw[←hJ0]
      obtain⟨J1,hJ1⟩:∃T:List UInt8,T=J0++[44,32]:=⟨_,rfl⟩
      obtain⟨J2,hJ2⟩:∃T:List UInt8,T=J1++nj.data.toList:=⟨_,rfl⟩
      have HJ2:Hid (joinTo nsx (j+1)=J2):=by rw[Hid,HJs.out,hJ2,hJ1,HJ0.out]
      rw[←hJ1,←hJ2] at hbj
      have lJ1:J1.length=(J0:List UInt8).length+([44,32]:List UInt8).length:=by rw[hJ1,List.length_append]
      have lJ2:J2.length=(J1:List UInt8).length+(nj.data.toList:List UInt8).length:=by rw[hJ2,List.length_append]
      simp only[lC,lN] at lJ1
      have t0:∀W,(Op.stringOp .add ⟨J0.toArray⟩ ⟨#[44,32]⟩).run Tryz.prog W=.ok (.string ⟨J1.toArray⟩) W:=fun W=>by rw[hJ1];exact add_text W J0 [44,32] (by simp only[lC,lN];omega)
      have t1:∀W,(Op.stringOp .add ⟨J1.toArray⟩ nj).run Tryz.prog W=.ok (.string ⟨J2.toArray⟩) W:=fun W=>by rw[hJ2];exact add_name W J1 nj (by omega)
      clear hJ0 hbj hjn hJ1 hJ2 lJ1 lJ2
      go_wp2_with fail
      go_roundw
      case rel=>exact⟨j+1,by omega,by omega,by go_num,by rw[HJ2.out],trivial⟩
      case measure=>simp[intOf];omega
     ·obtain rfl:j=ln:=by omega
      clear hjl
      obtain⟨M,hM⟩:=nw (joinTo nsx j)
      rw[←hM]
      have HMl:Hid (M.length+2≤1000000000):=by rw[Hid,hM];exact HLJ.out
      have HM:Hid _:=hM
      clear hM
      by_cases h1:j=1
      ·obtain⟨Q1,hQ1⟩:∃T:List UInt8,T=Z0++[32,32]:=⟨_,rfl⟩
       obtain⟨Q2,hQ2⟩:∃T:List UInt8,T=Q1++M:=⟨_,rfl⟩
       obtain⟨Q3,hQ3⟩:∃T:List UInt8,T=Q2++[32,61,32]:=⟨_,rfl⟩
       obtain⟨Q4,hQ4⟩:∃T:List UInt8,T=Q3++X:=⟨_,rfl⟩
       obtain⟨Q5,hQ5⟩:∃T:List UInt8,T=Q4++[59,10]:=⟨_,rfl⟩
       have HQ5:Hid (ZZ=Q5):=by
        rw[Hid,HZ1.out,if_pos h1,hQ5,hQ4,hQ3,hQ2,hQ1,HM.out]
        simp
       have hb5:Q5.length≤1000000000:=by rw[←HQ5.out];exact HBL.out
       have lQ1:Q1.length=(Z0:List UInt8).length+([32,32]:List UInt8).length:=by rw[hQ1,List.length_append]
       have lQ2:Q2.length=(Q1:List UInt8).length+(M:List UInt8).length:=by rw[hQ2,List.length_append]
       have lQ3:Q3.length=(Q2:List UInt8).length+([32,61,32]:List UInt8).length:=by rw[hQ3,List.length_append]
       have lQ4:Q4.length=(Q3:List UInt8).length+(X:List UInt8).length:=by rw[hQ4,List.length_append]
       have lQ5:Q5.length=(Q4:List UInt8).length+([59,10]:List UInt8).length:=by rw[hQ5,List.length_append]
       simp only[lC,lN] at lQ1 lQ3 lQ5
       have q0:∀W,(Op.stringOp .add ⟨Z0.toArray⟩ ⟨#[32,32]⟩).run Tryz.prog W=.ok (.string ⟨Q1.toArray⟩) W:=fun W=>by rw[hQ1];exact add_text W Z0 [32,32] (by simp only[lC,lN];omega)
       have q1:∀W,(Op.stringOp .add ⟨Q1.toArray⟩ ⟨M.toArray⟩).run Tryz.prog W=.ok (.string ⟨Q2.toArray⟩) W:=fun W=>by rw[hQ2];exact add_text W Q1 M (by omega)
       have q2:∀W,(Op.stringOp .add ⟨Q2.toArray⟩ ⟨#[32,61,32]⟩).run Tryz.prog W=.ok (.string ⟨Q3.toArray⟩) W:=fun W=>by rw[hQ3];exact add_text W Q2 [32,61,32] (by simp only[lC,lN];omega)
       have q3:∀W,(Op.stringOp .add ⟨Q3.toArray⟩ ⟨X.toArray⟩).run Tryz.prog W=.ok (.string ⟨Q4.toArray⟩) W:=fun W=>by rw[hQ4];exact add_text W Q3 X (by omega)
       have q4:∀W,(Op.stringOp .add ⟨Q4.toArray⟩ ⟨#[59,10]⟩).run Tryz.prog W=.ok (.string ⟨Q5.toArray⟩) W:=fun W=>by rw[hQ5];exact add_text W Q4 [59,10] (by simp only[lC,lN];omega)
       clear hb5  hQ1 hQ2 hQ3 hQ4 hQ5 lQ1 lQ2 lQ3 lQ4 lQ5
       go_wp2_with fail
       refine Calls.mono CT ?_
       rintro r w7 ⟨rfl,hb7⟩
       have HB7:=hid (HBw.out.trans (hb7.mono HSw.out))
       clear hb7
       go_wp2_with fail
       go_roundw
       case rel=>exact⟨k+1,by omega,by go_num,by rw[←HZZ.out,HQ5.out],HB7⟩
       case measure=>simp[intOf];omega
      ·have h1b:1<j:=by omega
       obtain⟨P1,hP1⟩:∃T:List UInt8,T=[40]++M:=⟨_,rfl⟩
       obtain⟨P2,hP2⟩:∃T:List UInt8,T=P1++[41]:=⟨_,rfl⟩
       have lM:=HMl.out
       have lP1:P1.length=1+M.length:=by rw[hP1,List.length_append];rfl
       have lP2:P2.length=(P1:List UInt8).length+([41]:List UInt8).length:=by rw[hP2,List.length_append]
       simp only[lC,lN] at lP2
       have p0:∀W,(Op.stringOp .add ⟨#[40]⟩ ⟨M.toArray⟩).run Tryz.prog W=.ok (.string ⟨P1.toArray⟩) W:=fun W=>by rw[hP1];exact add_text W [40] M (by simp only[lC,lN];omega)
       have p1:∀W,(Op.stringOp .add ⟨P1.toArray⟩ ⟨#[41]⟩).run Tryz.prog W=.ok (.string ⟨P2.toArray⟩) W:=fun W=>by rw[hP2];exact add_text W P1 [41] (by simp only[lC,lN];omega)
       obtain⟨Q1,hQ1⟩:∃T:List UInt8,T=Z0++[32,32]:=⟨_,rfl⟩
       obtain⟨Q2,hQ2⟩:∃T:List UInt8,T=Q1++P2:=⟨_,rfl⟩
       obtain⟨Q3,hQ3⟩:∃T:List UInt8,T=Q2++[32,61,32]:=⟨_,rfl⟩
       obtain⟨Q4,hQ4⟩:∃T:List UInt8,T=Q3++X:=⟨_,rfl⟩
       obtain⟨Q5,hQ5⟩:∃T:List UInt8,T=Q4++[59,10]:=⟨_,rfl⟩
       have HQ5:Hid (ZZ=Q5):=by
        rw[Hid,HZ1.out,if_neg h1,hQ5,hQ4,hQ3,hQ2,hQ1,hP2,hP1,HM.out]
        simp
       have hb5:Q5.length≤1000000000:=by rw[←HQ5.out];exact HBL.out
       have lQ1:Q1.length=(Z0:List UInt8).length+([32,32]:List UInt8).length:=by rw[hQ1,List.length_append]
       have lQ2:Q2.length=(Q1:List UInt8).length+(P2:List UInt8).length:=by rw[hQ2,List.length_append]
       have lQ3:Q3.length=(Q2:List UInt8).length+([32,61,32]:List UInt8).length:=by rw[hQ3,List.length_append]
       have lQ4:Q4.length=(Q3:List UInt8).length+(X:List UInt8).length:=by rw[hQ4,List.length_append]
       have lQ5:Q5.length=(Q4:List UInt8).length+([59,10]:List UInt8).length:=by rw[hQ5,List.length_append]
       simp only[lC,lN] at lQ1 lQ3 lQ5
       have q0:∀W,(Op.stringOp .add ⟨Z0.toArray⟩ ⟨#[32,32]⟩).run Tryz.prog W=.ok (.string ⟨Q1.toArray⟩) W:=fun W=>by rw[hQ1];exact add_text W Z0 [32,32] (by simp only[lC,lN];omega)
       have q1:∀W,(Op.stringOp .add ⟨Q1.toArray⟩ ⟨P2.toArray⟩).run Tryz.prog W=.ok (.string ⟨Q2.toArray⟩) W:=fun W=>by rw[hQ2];exact add_text W Q1 P2 (by omega)
       have q2:∀W,(Op.stringOp .add ⟨Q2.toArray⟩ ⟨#[32,61,32]⟩).run Tryz.prog W=.ok (.string ⟨Q3.toArray⟩) W:=fun W=>by rw[hQ3];exact add_text W Q2 [32,61,32] (by simp only[lC,lN];omega)
       have q3:∀W,(Op.stringOp .add ⟨Q3.toArray⟩ ⟨X.toArray⟩).run Tryz.prog W=.ok (.string ⟨Q4.toArray⟩) W:=fun W=>by rw[hQ4];exact add_text W Q3 X (by omega)
       have q4:∀W,(Op.stringOp .add ⟨Q4.toArray⟩ ⟨#[59,10]⟩).run Tryz.prog W=.ok (.string ⟨Q5.toArray⟩) W:=fun W=>by rw[hQ5];exact add_text W Q4 [59,10] (by simp only[lC,lN];omega)
       clear hb5 hP1 hP2 lM lP1 lP2 hQ1 hQ2 hQ3 hQ4 hQ5 lQ1 lQ2 lQ3 lQ4 lQ5
       go_wp2_with fail
       refine Calls.mono CT ?_
       rintro r w7 ⟨rfl,hb7⟩
       have HB7:=hid (HBw.out.trans (hb7.mono HSw.out))
       clear hb7
       go_wp2_with fail
       go_roundw
       case rel=>exact⟨k+1,by omega,by go_num,by rw[←HZZ.out,HQ5.out],HB7⟩
       case measure=>simp[intOf];omega
   ·obtain rfl:k=n:=by omega
    have HE:Hid ((ts.take k).flatten=ts.flatten):=by rw[Hid,←HLen.out,List.take_length]
    rw[HE.out]
    obtain⟨R0,hR0⟩:=nw (L1++ts.flatten)
    have HR0:Hid _:=hR0
    have hRl:R0.length+4≤1000000000:=by have:=HLe.out;rw[←hR0,List.length_append] at this;exact this
    rw[←hR0]
    have tl:∀W,(Op.stringOp .add ⟨R0.toArray⟩ ⟨#[116,101,108,10]⟩).run Tryz.prog W=.ok (.string ⟨(R0++[116,101,108,10]).toArray⟩) W:=fun W=>add_text W R0 [116,101,108,10] (by simp only[lC,lN];omega)
    clear hR0 hRl
    go_wp2_with fail
    go_ret
    exact⟨by rw[←HR0.out];rfl,HUp.out wr HB⟩
set_option maxRecDepth 100000 in
set_option maxHeartbeats 25600000 in
theorem node_ref_x1(fl:Bool){nm:ByteArray}{pl:Int}{ia oa va qa:Option Addr}{ic oc vc qc:Nat}{ins outs vars:List Pm}{eqs:List Eqn}(hin:RPms ins ia ic)(hout:RPms outs oa oc)(hvar:RPms vars va vc)(hv0:vars≠[])(hvn:vars.length≤1048576)(hn:eqs.length≤1048576)(hq:∀q∈eqs,RText q.e∧1≤q.ns.length∧q.ns.length≤32)(hlen:(Nd.text ⟨fl,nm,pl,ia,ic,ins,oa,oc,outs,va,vc,vars,qa,qc,eqs⟩).length≤1000000000)(w:World)(hl:Nd.lies w ⟨fl,nm,pl,ia,ic,ins,oa,oc,outs,va,vc,vars,qa,qc,eqs⟩) :
  Calls Tryz.prog 24 #[Nd.val ⟨fl,nm,pl,ia,ic,ins,oa,oc,outs,va,vc,vars,qa,qc,eqs⟩] w fun r w'=>r=.returned (.string ⟨(Nd.text ⟨fl,nm,pl,ia,ic,ins,oa,oc,outs,va,vc,vars,qa,qc,eqs⟩).toArray⟩)∧Below w.heap.size w w':=by
 obtain⟨Hd,hHd⟩:∃H:List UInt8,H=cond fl [102,108,111,119,32] [110,111,100,101,32]:=⟨_,rfl⟩
 have hHl:Hd.length=5:=by rw[hHd];cases fl<;>rfl
 obtain⟨hl1,hl2,hl3,hl4,hl5⟩:=hl
 obtain⟨ts,hts⟩:=nw (eqs.map Eqn.text)
 have HTS:Hid _:=hts
 obtain⟨I,hI⟩:=nw (pmsText ins)
 obtain⟨O,hO⟩:=nw (pmsText outs)
 obtain⟨V,hV⟩:=nw (pmsText vars)
 obtain⟨T1,hT1⟩:∃T:List UInt8,T=Hd++nm.data.toList:=⟨_,rfl⟩
 obtain⟨T2,hT2⟩:∃T:List UInt8,T=T1++[40]:=⟨_,rfl⟩
 obtain⟨T3,hT3⟩:∃T:List UInt8,T=T2++I:=⟨_,rfl⟩
 obtain⟨T4,hT4⟩:∃T:List UInt8,T=T3++[41,32,114,101,116,117,114,110,115,32,40]:=⟨_,rfl⟩
 obtain⟨T5,hT5⟩:∃T:List UInt8,T=T4++O:=⟨_,rfl⟩
 obtain⟨T6,hT6⟩:∃T:List UInt8,T=T5++[41,10]:=⟨_,rfl⟩
 obtain⟨V1,hV1⟩:∃T:List UInt8,T=T6++[118,97,114,32]:=⟨_,rfl⟩
 obtain⟨V2,hV2⟩:∃T:List UInt8,T=V1++V:=⟨_,rfl⟩
 obtain⟨V3,hV3⟩:∃T:List UInt8,T=V2++[59,10]:=⟨_,rfl⟩
 obtain⟨L1,hL1⟩:∃T:List UInt8,T=V3++[108,101,116,10]:=⟨_,rfl⟩
 have HT:Hid (Nd.text ⟨fl,nm,pl,ia,ic,ins,oa,oc,outs,va,vc,vars,qa,qc,eqs⟩=(L1++ts.flatten)++[116,101,108,10]):=by
  rw[Hid,hts,hL1,hV3,hV2,hV1,hT6,hT5,hT4,hT3,hT2,hT1,hHd,hV,hI,hO,Nd.text,if_neg hv0]
  cases fl<;>simp[eqsText]
 rw[HT.out] at hlen ⊢
 have HLe:=hid hlen
 have hLl:L1.length≤1000000000:=by simp only[List.length_append] at hlen;omega
 have lT1:T1.length=Hd.length+(nm.data.toList:List UInt8).length:=by rw[hT1,List.length_append]
 have lT2:T2.length=(T1:List UInt8).length+([40]:List UInt8).length:=by rw[hT2,List.length_append]
 have lT3:T3.length=(T2:List UInt8).length+(I:List UInt8).length:=by rw[hT3,List.length_append]
 have lT4:T4.length=(T3:List UInt8).length+([41,32,114,101,116,117,114,110,115,32,40]:List UInt8).length:=by rw[hT4,List.length_append]
 have lT5:T5.length=(T4:List UInt8).length+(O:List UInt8).length:=by rw[hT5,List.length_append]
 have lT6:T6.length=(T5:List UInt8).length+([41,10]:List UInt8).length:=by rw[hT6,List.length_append]
 have lV1:V1.length=(T6:List UInt8).length+([118,97,114,32]:List UInt8).length:=by rw[hV1,List.length_append]
 have lV2:V2.length=(V1:List UInt8).length+(V:List UInt8).length:=by rw[hV2,List.length_append]
 have lV3:V3.length=(V2:List UInt8).length+([59,10]:List UInt8).length:=by rw[hV3,List.length_append]
 have lL1:L1.length=(V3:List UInt8).length+([108,101,116,10]:List UInt8).length:=by rw[hL1,List.length_append]
 simp only[lC,lN,hHl] at lT1 lT2 lT4 lT6 lV1 lV3 lL1
 have s0:∀W,(Op.stringOp .add ⟨Hd.toArray⟩ nm).run Tryz.prog W=.ok (.string ⟨T1.toArray⟩) W:=fun W=>by rw[hT1];exact add_name W Hd nm (by omega)
 have s1:∀W,(Op.stringOp .add ⟨T1.toArray⟩ ⟨#[40]⟩).run Tryz.prog W=.ok (.string ⟨T2.toArray⟩) W:=fun W=>by rw[hT2];exact add_text W T1 [40] (by simp only[lC,lN];omega)
 have s2:∀W,(Op.stringOp .add ⟨T2.toArray⟩ ⟨I.toArray⟩).run Tryz.prog W=.ok (.string ⟨T3.toArray⟩) W:=fun W=>by rw[hT3];exact add_text W T2 I (by omega)
 have s3:∀W,(Op.stringOp .add ⟨T3.toArray⟩ ⟨#[41,32,114,101,116,117,114,110,115,32,40]⟩).run Tryz.prog W=.ok (.string ⟨T4.toArray⟩) W:=fun W=>by rw[hT4];exact add_text W T3 [41,32,114,101,116,117,114,110,115,32,40] (by simp only[lC,lN];omega)
 have s4:∀W,(Op.stringOp .add ⟨T4.toArray⟩ ⟨O.toArray⟩).run Tryz.prog W=.ok (.string ⟨T5.toArray⟩) W:=fun W=>by rw[hT5];exact add_text W T4 O (by omega)
 have s5:∀W,(Op.stringOp .add ⟨T5.toArray⟩ ⟨#[41,10]⟩).run Tryz.prog W=.ok (.string ⟨T6.toArray⟩) W:=fun W=>by rw[hT6];exact add_text W T5 [41,10] (by simp only[lC,lN];omega)
 have s6:∀W,(Op.stringOp .add ⟨T6.toArray⟩ ⟨#[118,97,114,32]⟩).run Tryz.prog W=.ok (.string ⟨V1.toArray⟩) W:=fun W=>by rw[hV1];exact add_text W T6 [118,97,114,32] (by simp only[lC,lN];omega)
 have s7:∀W,(Op.stringOp .add ⟨V1.toArray⟩ ⟨V.toArray⟩).run Tryz.prog W=.ok (.string ⟨V2.toArray⟩) W:=fun W=>by rw[hV2];exact add_text W V1 V (by omega)
 have s8:∀W,(Op.stringOp .add ⟨V2.toArray⟩ ⟨#[59,10]⟩).run Tryz.prog W=.ok (.string ⟨V3.toArray⟩) W:=fun W=>by rw[hV3];exact add_text W V2 [59,10] (by simp only[lC,lN];omega)
 have s9:∀W,(Op.stringOp .add ⟨V3.toArray⟩ ⟨#[108,101,116,10]⟩).run Tryz.prog W=.ok (.string ⟨L1.toArray⟩) W:=fun W=>by rw[hL1];exact add_text W V3 [108,101,116,10] (by simp only[lC,lN];omega)
 obtain⟨n,hn2⟩:=nw (eqs.length)
 obtain⟨n1,hn3⟩:=nw (ins.length)
 obtain⟨n2,hn4⟩:=nw (outs.length)
 obtain⟨n3,hn5⟩:=nw (vars.length)
 have hpos:0<n3:=by rw[hn5];exact List.length_pos_iff.2 hv0
 have hn3b:n3≤1048576:=by rw[hn5];exact hvn
 obtain⟨W0,hW0⟩:=nw (w.alloc (.cells #[.bool fl,.string nm,.int .i64 pl,.slice ia n1 ic,.slice oa n2 oc,.slice va n3 vc,.slice qa n qc] 60))
 have hb0:Below w.heap.size w W0:=by rw[hW0];exact bal _
 have hs0:W0.heap.size=w.heap.size+1:=by rw[hW0];simp
 have hbx:W0.heap[w.heap.size]?=some (.cells #[.bool fl,.string nm,.int .i64 pl,.slice ia n1 ic,.slice oa n2 oc,.slice va n3 vc,.slice qa n qc] 60 (0,0)):=by rw[hW0];exact heap_at rfl
 have up:∀w',Hid (Below W0.heap.size W0 w')→Below w.heap.size w w':=fun w' h=>hb0.trans (h.out.mono (by omega))
 have C1:TextIs W0 44 #[.slice ia n1 ic] I:=⟨fun w' h=>by rw[hI,hn3];exact hin w' (rowIn_below hl1 (up w' h))⟩
 have C2:TextIs W0 44 #[.slice oa n2 oc] O:=⟨fun w' h=>by rw[hO,hn4];exact hout w' (rowIn_below hl2 (up w' h))⟩
 have C3:TextIs W0 44 #[.slice va n3 vc] V:=⟨fun w' h=>by rw[hV,hn5];exact hvar w' (rowIn_below hl3 (up w' h))⟩
 have B1:Hid _:=keep_cell (show W0.cell? ⟨w.heap.size,1,none⟩=some (.string nm) by rw[cell_of_row hbx];rfl)
 have B3:Hid _:=keep_cell (show W0.cell? ⟨w.heap.size,3,none⟩=some (.slice ia n1 ic) by rw[cell_of_row hbx];rfl)
 have B4:Hid _:=keep_cell (show W0.cell? ⟨w.heap.size,4,none⟩=some (.slice oa n2 oc) by rw[cell_of_row hbx];rfl)
 have B5:Hid _:=keep_cell (show W0.cell? ⟨w.heap.size,5,none⟩=some (.slice va n3 vc) by rw[cell_of_row hbx];rfl)
 have B6:Hid _:=keep_cell (show W0.cell? ⟨w.heap.size,6,none⟩=some (.slice qa n qc) by rw[cell_of_row hbx];rfl)
 have HN:=hid hn2
 have HLen:Hid (ts.length=n):=by rw[Hid,hts,List.length_map,hn2]
 have HQ:Hid _:=hq
 have HL4:Hid _:=hl4
 have HL5:Hid _:=hl5
 have HUp:Hid _:=up
 have HE0:Hid _:=hW0
 have HB0:Hid _:=hb0
 have HS0:Hid _:=hs0
 have hnb:n≤1048576:=by rw[hn2];exact hn
 simp only[Nd.val,Nd.cells,List.toArray,←hn2,←hn3,←hn4,←hn5]
 have HBz:Hid (Below W0.heap.size W0 W0):=Below.refl _ _
 have f1:=B1.out W0 HBz
 have f3:=B3.out W0 HBz
 have f4:=B4.out W0 HBz
 have hwl:w.heap.size<W0.heap.size:=by omega
 cases fl
 all_goals
  dsimp only[cond] at hHd
  subst hHd
  clear hHl hts hI hO hV hn5 hvar hv0 hvn hn2 hn3 hn4 hl1 hl2 hl3 hl4 hl5 hW0 hb0 hs0 hbx up hin hout hq hlen hn hT1 hT2 hT3 hT4 hT5 hT6 hV1 hV2 hV3 hL1 lT1 lT2 lT3 lT4 lT5 lT6 lV1 lV2 lV3 lL1
  clear hLl
  go_enter Tryz.func24,Tryz.ntmps24
  go_wp2_with fail
  rw[←HE0.out]
  have HBd:=hid (((Gr.refl W0).drew).below)
  have g1:=B1.out W0.drew HBd
  have g3:=B3.out W0.drew HBd
  have g4:=B4.out W0.drew HBd
  go_region_held3 (fun w'=>w'.cell? ⟨w.heap.size,1,none⟩=some (.string nm)∧w'.cell? ⟨w.heap.size,3,none⟩=some (.slice ia n1 ic)∧w'.cell? ⟨w.heap.size,4,none⟩=some (.slice oa n2 oc)) (go_simp) ((refine Calls.mono (TextIs.out (W0:=W0) (by assumption) _ (by assumption)) ?_;rintro r w5 ⟨rfl,hb5⟩;have hB5:=grow_on (W:=W0) (by assumption) hb5;have m1:=B1.out w5 hB5;have m3:=B3.out w5 hB5;have m4:=B4.out w5 hB5;have m5:=B5.out w5 hB5;have m6:=B6.out w5 hB5;clear hb5))
  go_wp2_with fail
  refine Calls.mono (C3.out _ hB5) ?_
  rintro r w6 ⟨rfl,hb6⟩
  have hB6:=grow_on (W:=W0) hB5 hb6
  have p6:=B6.out w6 hB6
  clear hb6
  go_wp2_with fail
  go_loopw [3,4] (fun s i wr=>∃k:Nat,k≤n∧i=.int .i64 k∧s=.string ⟨(L1++(ts.take k).flatten).toArray⟩∧Hid (Below W0.heap.size W0 wr)) (fun _ i _=>n-(intOf i).toNat)
  case atStart=>exact⟨0,by omega,rfl,by simp,hB6⟩
  case round =>
   obtain⟨k,hk,rfl,rfl,HB⟩:=hrel
   have b6:=B6.out wr HB
   by_cases hlt:k<n
   ·have hkl:k<eqs.length:=by rw[←HN.out];exact hlt
    have hkt:k<ts.length:=by rw[HLen.out];exact hlt
    obtain⟨bA,oA,rfl,hbA,hrow⟩:=HL4.out (by intro h;rw[h] at hkl;simp at hkl)
    have hcr:=old_cells (n:=8) (HUp.out wr HB) hbA (fun j hj=>hrow k hkl j hj)
    obtain⟨hns,hle⟩:=HL5.out eqs[k] (List.getElem_mem hkl)
    obtain⟨hRT,q1,q2⟩:=HQ.out eqs[k] (List.getElem_mem hkl)
    obtain⟨bN,oN,hna,hbN,hnm⟩:=names_row hns (by intro h;rw[h] at q1;simp at q1)
    have CT:=hRT wr (lies_below (HUp.out wr HB) _ hle)
    have HF:Hid ((ts.take (k+1)).flatten=(ts.take k).flatten++ts[k]):=flat_at2 _ _ hkt
    have hx:ts[k]=eqs[k].text:=by simp[HTS.out]
    have hbl:(L1++(ts.take (k+1)).flatten).length≤1000000000:=by
     have h1:=HLe.out
     have h2:ts.flatten=(ts.take (k+1)).flatten++(ts.drop (k+1)).flatten:=by rw[←List.flatten_append,List.take_append_drop]
     rw[h2] at h1
     simp only[List.length_append] at h1 ⊢
     omega
    obtain⟨Z0,hZ0⟩:=nw (L1++(ts.take k).flatten)
    obtain⟨ZZ,hZZ⟩:=nw (L1++(ts.take (k+1)).flatten)
    have HZZ:Hid _:=hZZ
    rw[←hZ0]
    rw[HF.out,hx,←List.append_assoc,←hZ0,eqn_text,left_join] at hZZ
    rw[←HZZ.out] at hbl
    have HNames:Hid (∀i (hi:i<eqs[k].ns.length),wr.cell? ⟨bN,oN+i,none⟩=some (.string eqs[k].ns[i])):=fun i hi=>((HUp.out wr HB).cell (p:=⟨bN,oN+i,none⟩) hbN).trans (hnm i hi)
    have hLJ:(joinTo eqs[k].ns eqs[k].ns.length).length+2≤1000000000:=by
     rw[hZZ] at hbl
     split at hbl<;>simp only[List.length_append,List.length_cons,List.length_nil] at hbl<;>omega
    have HJl:Hid (∀j,j≤eqs[k].ns.length→(joinTo eqs[k].ns j).length≤1000000000):=fun j hj=>by
     have:=join_le eqs[k].ns j
     unfold joinTo at hLJ ⊢
     rw[List.take_length] at hLJ
     unfold joinTo at this
     omega
    generalize eqs[k]=x at *
    obtain⟨nax,ncx,nsx,plx,e⟩:=x
    obtain⟨X,hX⟩:=nw (e.text)
    simp only at hns hna q1 q2 hZZ CT HNames hLJ HJl
    simp only[←hX] at CT hZZ
    obtain⟨ln,hln⟩:=nw (nsx.length)
    have HLN:Hid _:=hln
    have HZ1:Hid (ZZ=Z0++([32,32]++((if ln=1 then joinTo nsx ln else [40]++joinTo nsx ln++[41])++[32,61,32])++(X++[59,10]))):=by rw[Hid,hln];exact hZZ
    have HLJ:Hid ((joinTo nsx ln).length+2≤1000000000):=by rw[Hid,hln];exact hLJ
    have HBL:=hid hbl
    have hl1:1≤ln:=by rw[hln];exact q1
    have hl2:ln≤32:=by rw[hln];exact q2
    obtain rfl:=hna
    obtain⟨kx,px,nx,ix,dx,ax,cx,qx⟩:=e
    obtain⟨lx,hlx⟩:=nw (qx.length)
    simp only[Eqn.cells,Ex.val,Ex.cells,List.toArray,←hlx,←hln] at CT hcr
    have d0:wr.cell? ⟨bA,oA+k*8,none⟩=some (.slice (some ⟨bN,oN,none⟩) ln ncx):=hcr 0 (by omega)
    have d2:wr.cell? ⟨bA,oA+k*8+2,none⟩=some (.int .u8 kx):=hcr 2 (by omega)
    have d3:wr.cell? ⟨bA,oA+k*8+2+1,none⟩=some (.int .i64 px):=hcr 3 (by omega)
    have d4:wr.cell? ⟨bA,oA+k*8+2+2,none⟩=some (.string nx):=hcr 4 (by omega)
    have d5:wr.cell? ⟨bA,oA+k*8+2+3,none⟩=some (.int .i64 ix):=hcr 5 (by omega)
    have d6:wr.cell? ⟨bA,oA+k*8+2+4,none⟩=some (.int .i64 dx):=hcr 6 (by omega)
    have d7:wr.cell? ⟨bA,oA+k*8+2+5,none⟩=some (.slice ax lx cx):=hcr 7 (by omega)
    obtain⟨x0,rx,hx0⟩:∃x r,nsx=x::r:=by cases nsx with|nil=>simp at q1|cons x r=>exact⟨x,r,rfl⟩
    have n0:wr.cell? ⟨bN,oN,none⟩=some (.string x0):=by have:=HNames.out 0 (by omega);simpa [hx0] using this
    have HJ1:Hid (joinTo nsx 1=x0.data.toList):=by rw[Hid,hx0];exact join_one1 x0 rx
    clear hZZ hZ0 hbl hLJ hX hlx hcr hrow hns hle hRT q1 q2 hnm hx HF hkl hkt hbA hx0
    go_wp2_with fail
    have HBw:=hid HB
    have HSw:=hid (HB.out.size)
    go_loopw [6,7] (fun s i w2=>∃j:Nat,1≤j∧j≤ln∧i=.int .i64 j∧s=.string ⟨(joinTo nsx j).toArray⟩∧w2=wr) (fun _ i _=>ln-(intOf i).toNat)
    case atStart=>exact⟨1,Nat.le_refl _,hl1,rfl,by rw[HJ1.out],rfl⟩
    case round =>
     obtain⟨j,hj1,hj2,rfl,rfl,hw2⟩:=hrel
     subst hw2
     by_cases hjl:j<ln
     ·have hjn:j<nsx.length:=by rw[←HLN.out];exact hjl
      have hnj:=HNames.out j hjn
      have HJs:=hid (join_at nsx j hj1 hjn)
      have hbj:(joinTo nsx (j+1)).length≤1000000000:=HJl.out (j+1) (by rw[←HLN.out];omega)
      generalize nsx[j]=nj at hnj HJs
      obtain⟨J0,hJ0⟩:=nw (joinTo nsx j)
      rw[HJs.out,←hJ0] at hbj
      have HJ0:Hid _:=hJ0
      rw[←hJ0]
      obtain⟨J1,hJ1⟩:∃T:List UInt8,T=J0++[44,32]:=⟨_,rfl⟩
      obtain⟨J2,hJ2⟩:∃T:List UInt8,T=J1++nj.data.toList:=⟨_,rfl⟩
      have HJ2:Hid (joinTo nsx (j+1)=J2):=by rw[Hid,HJs.out,hJ2,hJ1,HJ0.out]
      rw[←hJ1,←hJ2] at hbj
      have lJ1:J1.length=(J0:List UInt8).length+([44,32]:List UInt8).length:=by rw[hJ1,List.length_append]
      have lJ2:J2.length=(J1:List UInt8).length+(nj.data.toList:List UInt8).length:=by rw[hJ2,List.length_append]
      simp only[lC,lN] at lJ1
      have t0:∀W,(Op.stringOp .add ⟨J0.toArray⟩ ⟨#[44,32]⟩).run Tryz.prog W=.ok (.string ⟨J1.toArray⟩) W:=fun W=>by rw[hJ1];exact add_text W J0 [44,32] (by simp only[lC,lN];omega)
      have t1:∀W,(Op.stringOp .add ⟨J1.toArray⟩ nj).run Tryz.prog W=.ok (.string ⟨J2.toArray⟩) W:=fun W=>by rw[hJ2];exact add_name W J1 nj (by omega)
      clear hJ0 hbj hjn hJ1 hJ2 lJ1 lJ2
      go_wp2_with fail
      go_roundw
      case rel=>exact⟨j+1,by omega,by omega,by go_num,by rw[HJ2.out],trivial⟩
      case measure=>simp[intOf];omega
     ·obtain rfl:j=ln:=by omega
      clear hjl
      obtain⟨M,hM⟩:=nw (joinTo nsx j)
      rw[←hM]
      have HMl:Hid (M.length+2≤1000000000):=by rw[Hid,hM];exact HLJ.out
      have HM:Hid _:=hM
      clear hM
      by_cases h1:j=1
      ·obtain⟨Q1,hQ1⟩:∃T:List UInt8,T=Z0++[32,32]:=⟨_,rfl⟩
       obtain⟨Q2,hQ2⟩:∃T:List UInt8,T=Q1++M:=⟨_,rfl⟩
       obtain⟨Q3,hQ3⟩:∃T:List UInt8,T=Q2++[32,61,32]:=⟨_,rfl⟩
       obtain⟨Q4,hQ4⟩:∃T:List UInt8,T=Q3++X:=⟨_,rfl⟩
       obtain⟨Q5,hQ5⟩:∃T:List UInt8,T=Q4++[59,10]:=⟨_,rfl⟩
       have HQ5:Hid (ZZ=Q5):=by
        rw[Hid,HZ1.out,if_pos h1,hQ5,hQ4,hQ3,hQ2,hQ1,HM.out]
        simp
       have hb5:Q5.length≤1000000000:=by rw[←HQ5.out];exact HBL.out
       have lQ1:Q1.length=(Z0:List UInt8).length+([32,32]:List UInt8).length:=by rw[hQ1,List.length_append]
       have lQ2:Q2.length=(Q1:List UInt8).length+(M:List UInt8).length:=by rw[hQ2,List.length_append]
       have lQ3:Q3.length=(Q2:List UInt8).length+([32,61,32]:List UInt8).length:=by rw[hQ3,List.length_append]
       have lQ4:Q4.length=(Q3:List UInt8).length+(X:List UInt8).length:=by rw[hQ4,List.length_append]
       have lQ5:Q5.length=(Q4:List UInt8).length+([59,10]:List UInt8).length:=by rw[hQ5,List.length_append]
       simp only[lC,lN] at lQ1 lQ3 lQ5
       have q0:∀W,(Op.stringOp .add ⟨Z0.toArray⟩ ⟨#[32,32]⟩).run Tryz.prog W=.ok (.string ⟨Q1.toArray⟩) W:=fun W=>by rw[hQ1];exact add_text W Z0 [32,32] (by simp only[lC,lN];omega)
       have q1:∀W,(Op.stringOp .add ⟨Q1.toArray⟩ ⟨M.toArray⟩).run Tryz.prog W=.ok (.string ⟨Q2.toArray⟩) W:=fun W=>by rw[hQ2];exact add_text W Q1 M (by omega)
       have q2:∀W,(Op.stringOp .add ⟨Q2.toArray⟩ ⟨#[32,61,32]⟩).run Tryz.prog W=.ok (.string ⟨Q3.toArray⟩) W:=fun W=>by rw[hQ3];exact add_text W Q2 [32,61,32] (by simp only[lC,lN];omega)
       have q3:∀W,(Op.stringOp .add ⟨Q3.toArray⟩ ⟨X.toArray⟩).run Tryz.prog W=.ok (.string ⟨Q4.toArray⟩) W:=fun W=>by rw[hQ4];exact add_text W Q3 X (by omega)
       have q4:∀W,(Op.stringOp .add ⟨Q4.toArray⟩ ⟨#[59,10]⟩).run Tryz.prog W=.ok (.string ⟨Q5.toArray⟩) W:=fun W=>by rw[hQ5];exact add_text W Q4 [59,10] (by simp only[lC,lN];omega)
       clear hb5  hQ1 hQ2 hQ3 hQ4 hQ5 lQ1 lQ2 lQ3 lQ4 lQ5
       go_wp2_with fail
       refine Calls.mono CT ?_
       rintro r w7 ⟨rfl,hb7⟩
       have HB7:=hid (HBw.out.trans (hb7.mono HSw.out))
       clear hb7
       go_wp2_with fail
       go_roundw
       case rel=>exact⟨k+1,by omega,by go_num,by rw[←HZZ.out,HQ5.out],HB7⟩
       case measure=>simp[intOf];omega
      ·have h1b:1<j:=by omega
       obtain⟨P1,hP1⟩:∃T:List UInt8,T=[40]++M:=⟨_,rfl⟩
       obtain⟨P2,hP2⟩:∃T:List UInt8,T=P1++[41]:=⟨_,rfl⟩
       have lM:=HMl.out
       have lP1:P1.length=1+M.length:=by rw[hP1,List.length_append];rfl
       have lP2:P2.length=(P1:List UInt8).length+([41]:List UInt8).length:=by rw[hP2,List.length_append]
       simp only[lC,lN] at lP2
       have p0:∀W,(Op.stringOp .add ⟨#[40]⟩ ⟨M.toArray⟩).run Tryz.prog W=.ok (.string ⟨P1.toArray⟩) W:=fun W=>by rw[hP1];exact add_text W [40] M (by simp only[lC,lN];omega)
       have p1:∀W,(Op.stringOp .add ⟨P1.toArray⟩ ⟨#[41]⟩).run Tryz.prog W=.ok (.string ⟨P2.toArray⟩) W:=fun W=>by rw[hP2];exact add_text W P1 [41] (by simp only[lC,lN];omega)
       obtain⟨Q1,hQ1⟩:∃T:List UInt8,T=Z0++[32,32]:=⟨_,rfl⟩
       obtain⟨Q2,hQ2⟩:∃T:List UInt8,T=Q1++P2:=⟨_,rfl⟩
       obtain⟨Q3,hQ3⟩:∃T:List UInt8,T=Q2++[32,61,32]:=⟨_,rfl⟩
       obtain⟨Q4,hQ4⟩:∃T:List UInt8,T=Q3++X:=⟨_,rfl⟩
       obtain⟨Q5,hQ5⟩:∃T:List UInt8,T=Q4++[59,10]:=⟨_,rfl⟩
       have HQ5:Hid (ZZ=Q5):=by
        rw[Hid,HZ1.out,if_neg h1,hQ5,hQ4,hQ3,hQ2,hQ1,hP2,hP1,HM.out]
        simp
       have hb5:Q5.length≤1000000000:=by rw[←HQ5.out];exact HBL.out
       have lQ1:Q1.length=(Z0:List UInt8).length+([32,32]:List UInt8).length:=by rw[hQ1,List.length_append]
       have lQ2:Q2.length=(Q1:List UInt8).length+(P2:List UInt8).length:=by rw[hQ2,List.length_append]
       have lQ3:Q3.length=(Q2:List UInt8).length+([32,61,32]:List UInt8).length:=by rw[hQ3,List.length_append]
       have lQ4:Q4.length=(Q3:List UInt8).length+(X:List UInt8).length:=by rw[hQ4,List.length_append]
       have lQ5:Q5.length=(Q4:List UInt8).length+([59,10]:List UInt8).length:=by rw[hQ5,List.length_append]
       simp only[lC,lN] at lQ1 lQ3 lQ5
       have q0:∀W,(Op.stringOp .add ⟨Z0.toArray⟩ ⟨#[32,32]⟩).run Tryz.prog W=.ok (.string ⟨Q1.toArray⟩) W:=fun W=>by rw[hQ1];exact add_text W Z0 [32,32] (by simp only[lC,lN];omega)
       have q1:∀W,(Op.stringOp .add ⟨Q1.toArray⟩ ⟨P2.toArray⟩).run Tryz.prog W=.ok (.string ⟨Q2.toArray⟩) W:=fun W=>by rw[hQ2];exact add_text W Q1 P2 (by omega)
       have q2:∀W,(Op.stringOp .add ⟨Q2.toArray⟩ ⟨#[32,61,32]⟩).run Tryz.prog W=.ok (.string ⟨Q3.toArray⟩) W:=fun W=>by rw[hQ3];exact add_text W Q2 [32,61,32] (by simp only[lC,lN];omega)
       have q3:∀W,(Op.stringOp .add ⟨Q3.toArray⟩ ⟨X.toArray⟩).run Tryz.prog W=.ok (.string ⟨Q4.toArray⟩) W:=fun W=>by rw[hQ4];exact add_text W Q3 X (by omega)
       have q4:∀W,(Op.stringOp .add ⟨Q4.toArray⟩ ⟨#[59,10]⟩).run Tryz.prog W=.ok (.string ⟨Q5.toArray⟩) W:=fun W=>by rw[hQ5];exact add_text W Q4 [59,10] (by simp only[lC,lN];omega)
       clear hb5 hP1 hP2 lM lP1 lP2 hQ1 hQ2 hQ3 hQ4 hQ5 lQ1 lQ2 lQ3 lQ4 lQ5
       go_wp2_with fail
       refine Calls.mono CT ?_
       rintro r w7 ⟨rfl,hb7⟩
       have HB7:=hid (HBw.out.trans (hb7.mono HSw.out))
       clear hb7
       go_wp2_with fail
       go_roundw
       case rel=>exact⟨k+1,by omega,by go_num,by rw[←HZZ.out,HQ5.out],HB7⟩
       case measure=>simp[intOf];omega
   ·obtain rfl:k=n:=by omega
    have HE:Hid ((ts.take k).flatten=ts.flatten):=by rw[Hid,←HLen.out,List.take_length]
    rw[HE.out]
    obtain⟨R0,hR0⟩:=nw (L1++ts.flatten)
    have HR0:Hid _:=hR0
    have hRl:R0.length+4≤1000000000:=by have:=HLe.out;rw[←hR0,List.length_append] at this;exact this
    rw[←hR0]
    have tl:∀W,(Op.stringOp .add ⟨R0.toArray⟩ ⟨#[116,101,108,10]⟩).run Tryz.prog W=.ok (.string ⟨(R0++[116,101,108,10]).toArray⟩) W:=fun W=>add_text W R0 [116,101,108,10] (by simp only[lC,lN];omega)
    clear hR0 hRl
    go_wp2_with fail
    go_ret
    exact⟨by rw[←HR0.out];rfl,HUp.out wr HB⟩
