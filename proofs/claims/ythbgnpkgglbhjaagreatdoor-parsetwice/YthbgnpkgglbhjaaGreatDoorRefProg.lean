import Derived.Test.YthbgnpkgglbhjaaGreatDoorRefNodes
import Derived.Test.YthbgnpkgglbhjaaGreatDoorRefMays
namespace Go.Proofs.YthbgnpkgglbhjaaGreatDoor
open Go.RowKit
open Ex.size Ex.depth Ex.lies Ex.bulk Ex.good Ex.shape Ex.text
theorem pms_rates{rate due:Bool}{l:List Pm}(h:l.all (pmsB rate due)=true):∀p∈l,p.rt=true→0≤p.pd∧0≤p.st:=fun p hp hr=>by
 have:=List.all_eq_true.1 h p hp
 simp only[pmsB,pmB,pmNums,Bool.and_eq_true,hr,if_true,decide_eq_true_eq] at this
 have h1:=this.1.1.2.2
 omega
theorem node_ref(n:Nd)(hg:n.good)(hnum:n.nums)(hf:fewB n=true)(hb:ndB n=true)(hsz:eqSizes n.eqs≤1048576)(w:World)(hl:n.lies w) :
  Calls Tryz.prog 24 #[n.val] w fun r w'=>r=.returned (.string ⟨n.text.toArray⟩)∧Below w.heap.size w w':=by
 have hlen:n.text.length≤1000000000:=by have:=nd_len hf hb hnum hg;omega
 have hf':=hf
 have hb':=hb
 simp only[fewB,decide_eq_true_eq] at hf'
 obtain⟨f1,f2,f3,f4⟩:=hf'
 obtain⟨-,g1,g2,g3,g4,-,-,-,g8⟩:=hg
 obtain⟨m1,m2,m3,m4⟩:=hnum
 simp only[ndB,Bool.and_eq_true] at hb'
 obtain⟨⟨-,⟨b1,b2⟩,b3⟩,b4⟩:=hb'
 have each:∀(rate due:Bool)(l:List Pm)(a:Option Addr)(c:Nat),l.length≤32→l.all (pmsB rate due)=true→(∀p∈l,p.wf)→RPms l a c:=fun rate due l a c hl hp hw w hr =>
  params_ref l a c (by omega) (fun p hpm=>⟨hw p hpm,pms_types hp p hpm,pms_rates hp p hpm⟩) (by have:=pms_len (fun p hpm=>⟨pms_names hp p hpm,hw p hpm⟩) hl;omega) w hr
 have hin:RPms n.ins n.ia n.ic:=each _ _ _ _ _ f1 b1 m1
 have hout:RPms n.outs n.oa n.oc:=each _ _ _ _ _ f2 b2 m2
 have hvar:RPms n.vars n.va n.vc:=each _ _ _ _ _ f3 b3 m3
 have hq:∀q∈n.eqs,RText q.e∧1≤q.ns.length∧q.ns.length≤32:=fun q hq=>by
  have e1:=List.all_eq_true.1 b4 q hq
  simp only[eqB,Bool.and_eq_true,decide_eq_true_eq] at e1
  obtain⟨⟨⟨e2,e3⟩,e4⟩,e5⟩:=e1
  obtain⟨k3,k4,k5,k6⟩:=g8 q hq
  exact⟨rtext_all _ q.e (Nat.le_refl _) (Nat.le_trans (size_bulk q.e) k6) e5 k5,e2,e3⟩
 obtain⟨fl,nm,pl,ia,ic,ins,oa,oc,outs,va,vc,vars,qa,qc,eqs⟩:=n
 by_cases hv0:vars=[]
 ·subst hv0
  exact node_ref_x0 fl hin hout g4 hq hlen w hl
 ·exact node_ref_x1 fl hin hout hvar hv0 g3 g4 hq hlen w hl
theorem nds_at(l:List Nd)(k:Nat)(h:k<l.length):ndsText (l.take (k+1))=ndsText (l.take k)++l[k].text:=by
 unfold ndsText
 rw[List.take_succ_eq_append_getElem h,List.map_append,List.flatten_append]
 simp only[List.map_cons,List.map_nil,List.flatten_cons,List.flatten_nil,List.append_nil]
theorem eqSizes_nds{l:List Nd}{n:Nd}(h:n∈l):eqSizes n.eqs≤ndSizes l:=by
 induction l with
 | nil=>cases h
 | cons y r ih =>
  simp only[ndSizes]
  rcases List.mem_cons.1 h with rfl|h
  ·omega
  ·have:=ih h;omega
theorem nds_take(l:List Nd)(k:Nat):(ndsText (l.take k)).length≤(ndsText l).length:=by
 have h:ndsText l=ndsText (l.take k)++ndsText (l.drop k):=by
  unfold ndsText
  rw[←List.flatten_append,←List.map_append,List.take_append_drop]
 rw[h,List.length_append]
 omega
set_option maxRecDepth 100000 in
set_option maxHeartbeats 6400000 in
theorem program_ref(l:List Nd)(a:Option Addr)(cap:Nat)(hg:Goods l)(hm:∀n∈l,n.nums)(w:World)(hl:Lie w a l) :
  Calls Tryz.prog 10 #[.agg #[.slice a l.length cap]] w fun x w'=>x=.returned (.tuple #[.string (progOut l).1,.int .i64 (progOut l).2])∧Below w.heap.size w w':=by
 obtain⟨n,hn⟩:=nw (l.length)
 obtain⟨W0,hW0⟩:=nw (w.alloc (.cells #[.slice a n cap] 24))
 have hs0:W0.heap.size=w.heap.size+1:=by rw[hW0];simp
 have hb0:Below w.heap.size w W0:=by rw[hW0];exact bal _
 have hbx:W0.heap[w.heap.size]?=some (.cells #[.slice a n cap] 24 (0,0)):=by rw[hW0];exact heap_at rfl
 have CM:=may_ref l a cap hg W0 (hl.below hb0)
 have HO:Hid (progOut l=if mayOf l=0 then outOf (ndsText l) else (⟨#[]⟩,mayOf l)):=rfl
 have HOut:Hid (outOf (ndsText l)=if 65536<(ndsText l).length then (⟨#[]⟩,4) else (⟨(ndsText l).toArray⟩,0)):=rfl
 have HCT:Hid (mayOf l=0→∀(k:Nat)(h:k<l.length) w',Below W0.heap.size W0 w'→Calls Tryz.prog 24 #[l[k].val] w' fun x w''=>x=.returned (.string ⟨l[k].text.toArray⟩)∧Below w'.heap.size w' w''):=fun hm0 k h w' hb'=>by
  obtain⟨m1,m2,m3⟩:=may_ok hm0
  have hk:=List.getElem_mem h
  exact node_ref l[k] (hg.1 _ hk) (hm _ hk) (m3 _ hk).1 (m3 _ hk).2 (by have:=eqSizes_nds hk;omega) w' (Nd.lies_below (hl.2 _ hk) (hb0.trans (hb'.mono (by omega))))
 have HTL:Hid (mayOf l=0→(ndsText l).length≤100000000):=fun hm0=>by
  obtain⟨m1,m2,m3⟩:=may_ok hm0
  have hlen:=nds_len (l:=l) fun n hn=>⟨(m3 n hn).1,(m3 n hn).2,hm n hn,hg.1 n hn⟩
  have h64:l.length*153000≤64*153000:=Nat.mul_le_mul_right _ m1
  omega
 have B0:Hid _:=keep_cell (show W0.cell? ⟨w.heap.size,0,none⟩=some (.slice a n cap) by rw[cell_of_row hbx];rfl)
 have hnb:n≤1048576:=by rw[hn];exact hg.2.1
 have HLL:Hid _:=hl.1
 have HN:=hid hn
 have HW0:Hid _:=hW0
 have HS0:Hid _:=hs0
 have HB0:Hid _:=hb0
 have HUp:Hid (∀w',Below W0.heap.size W0 w'→Below w.heap.size w w'):=fun w' h=>hb0.trans (h.mono (by omega))
 rw[←hn] at CM ⊢
 clear hn hW0 hs0 hb0 hbx hl hg hm
 generalize hou:outOf (ndsText l)=out at *
 clear hou
 generalize progOut l=res at *
 generalize mayOf l=om at *
 go_enter Tryz.func10,Tryz.ntmps10
 go_wp2_with fail
 rw[←HW0.out]
 have f0:=B0.out W0 (Below.refl _ _)
 refine CM.mono ?_
 rintro x w1 ⟨rfl,hb1⟩
 have HB1:=hid hb1
 have f1:=B0.out w1 HB1
 clear CM hb1 f0
 by_cases hm:om=0
 ·have HO1:Hid (res=out):=by rw[Hid,HO.out,if_pos hm]
  have HC:=HCT.out hm
  have hTL:=HTL.out hm
  have HTt:Hid _:=hTL
  have HCC:Hid _:=HC
  subst hm
  clear HC hTL
  go_wp2_with fail
  go_loopw [5,6] (fun s i wr=>∃k:Nat,k≤n∧i=.int .i64 k∧s=.string ⟨(ndsText (l.take k)).toArray⟩∧Hid (Below W0.heap.size W0 wr)) (fun _ i _=>n-(intOf i).toNat)
  case atStart=>exact⟨0,by omega,rfl,by simp[ndsText],HB1⟩
  case round =>
   obtain⟨k,hk,rfl,rfl,HB⟩:=hrel
   have b0:=B0.out wr HB
   by_cases hlt:k<n
   ·have hkl:k<l.length:=by rw[←HN.out];exact hlt
    obtain⟨bA,oA,rfl,hbA,hrow⟩:=HLL.out (by intro h;rw[h] at hkl;simp at hkl)
    have hcr:=old_cells (n:=7) (HUp.out wr HB.out) hbA (fun j hj=>hrow k hkl j hj)
    have CT:=HCC.out k hkl wr HB.out
    have HF:=hid (nds_at l k hkl)
    have hbl:=Nat.le_trans (nds_take l (k+1)) HTt.out
    have HSw:=hid (HB.out.size)
    obtain⟨Z0,hZ0⟩:=nw (ndsText (l.take k))
    rw[HF.out,←hZ0,List.length_append] at hbl
    have HZ0:Hid _:=hZ0
    rw[←hZ0]
    obtain⟨X,hX⟩:=nw (l[k].text)
    have HX:Hid _:=hX
    rw[←hX] at hbl CT
    have t0:∀W,(Op.stringOp .add ⟨Z0.toArray⟩ ⟨X.toArray⟩).run Tryz.prog W=.ok (.string ⟨(Z0++X).toArray⟩) W:=fun W=>add_text W Z0 X (by omega)
    clear hZ0 hX hbl hrow hbA
    have HFX:Hid (ndsText (l.take (k+1))=Z0++X):=by rw[Hid,HF.out,HZ0.out,HX.out]
    clear HF HX
    generalize l[k]=y at *
    clear hkl
    obtain⟨fl,nm,pl,ia,ic,ins,oa,oc,outs,va,vc,vars,qa,qc,eqs⟩:=y
    generalize hn1:ins.length=n1 at *
    generalize hn2:outs.length=n2 at *
    generalize hn3:vars.length=n3 at *
    generalize hn4:eqs.length=n4 at *
    simp only[Nd.val,Nd.cells,List.toArray,hn1,hn2,hn3,hn4] at CT hcr
    have d0:wr.cell? ⟨bA,oA+k*7,none⟩=some (.bool fl):=hcr 0 (by omega)
    have d1:wr.cell? ⟨bA,oA+k*7+1,none⟩=some (.string nm):=hcr 1 (by omega)
    have d2:wr.cell? ⟨bA,oA+k*7+2,none⟩=some (.int .i64 pl):=hcr 2 (by omega)
    have d3:wr.cell? ⟨bA,oA+k*7+3,none⟩=some (.slice ia n1 ic):=hcr 3 (by omega)
    have d4:wr.cell? ⟨bA,oA+k*7+4,none⟩=some (.slice oa n2 oc):=hcr 4 (by omega)
    have d5:wr.cell? ⟨bA,oA+k*7+5,none⟩=some (.slice va n3 vc):=hcr 5 (by omega)
    have d6:wr.cell? ⟨bA,oA+k*7+6,none⟩=some (.slice qa n4 qc):=hcr 6 (by omega)
    clear hcr hn1 hn2 hn3 hn4
    go_wp2_with fail
    refine Calls.mono CT ?_
    rintro r w7 ⟨rfl,hb7⟩
    have HB7:=hid (HB.out.trans (hb7.mono HSw.out))
    clear hb7
    go_wp2_with fail
    go_roundw
    case rel=>exact⟨k+1,by omega,by go_num,by rw[HFX.out],HB7⟩
    case measure=>simp[intOf];omega
   ·obtain rfl:k=n:=by omega
    have HE:Hid (l.take k=l):=by rw[Hid,HN.out,List.take_length]
    rw[HE.out]
    obtain⟨TT,hTT⟩:=nw (ndsText l)
    have HT2:Hid _:=hTT
    rw[←hTT]
    obtain⟨tl,htl⟩:=nw (TT.length)
    have hsz:(ByteArray.mk TT.toArray).size=tl:=by rw[htl];rfl
    have hlen:tl≤100000000:=by rw[htl,hTT];exact HTt.out
    by_cases hlt2:65536<tl
    ·have HOut1:Hid (out=(⟨#[]⟩,4)):=by rw[Hid,HOut.out,if_pos (by rw[←hTT,←htl];exact hlt2)]
     clear htl hTT
     go_wp2_with fail
     go_ret2
     exact⟨by rw[HO1.out,HOut1.out];rfl,HUp.out wr HB.out⟩
    ·have HOut1:Hid (out=(⟨TT.toArray⟩,0)):=by rw[Hid,HOut.out,if_neg (by rw[←hTT,←htl];exact hlt2),←hTT]
     clear htl hTT
     go_wp2_with fail
     go_ret2
     exact⟨by rw[HO1.out,HOut1.out];rfl,HUp.out wr HB.out⟩
 ·have HO1:Hid (res=(⟨#[]⟩,om)):=by rw[Hid,HO.out,if_neg hm]
  have hm2:=beq_false_of_ne hm
  go_wp2_with fail
  go_ret2
  exact⟨by rw[HO1.out];rfl,HUp.out w1 HB1.out⟩
end Go.Proofs.YthbgnpkgglbhjaaGreatDoor
