import Derived.Test.YthbgnpkgglbhjaaGreatDoorSameFacts
import Derived.Deep.QuietTactic
import Derived.BigQuiet
import Derived.Deep.RegionHeld3
namespace Go.Proofs.YthbgnpkgglbhjaaGreatDoor
open Go.RowKit
open Ex.size Ex.depth Ex.lies Ex.bulk Ex.good Ex.same
set_option maxRecDepth 100000 in
set_option maxHeartbeats 3200000 in
theorem refTexts_calls(la lb:List ByteArray)(aa ab:Option Addr)(ca cb:Nat)(hn:la.length≤1048576)(hn':lb.length≤1048576)(w:World)(hla:rowIn textOf 1 w aa la)(hlb:rowIn textOf 1 w ab lb) :
  Calls Tryz.prog 30 #[.slice aa la.length ca,.slice ab lb.length cb] w fun x w'=>x=.returned (.bool (likeB textEq la lb))∧Below w.heap.size w w':=by
 obtain⟨n,hN⟩:=nw (la.length)
 obtain⟨n',hN'⟩:∃n',n'=lb.length:=⟨_,rfl⟩
 have HN:=hid hN
 have HN':=hid hN'
 rw[←hN] at hn ⊢
 rw[←hN'] at hn' ⊢
 have HLa:=hid hla
 have HLb:=hid hlb
 have HLen:Hid (n≠n'→likeB textEq la lb=false):=fun h=>likeB_len textEq la lb (by rw[←hN,←hN'];exact h)
 have HEnd:Hid (n=n'→likeB textEq (la.take n) (lb.take n)=true→likeB textEq la lb=true):=fun h1 h2=>likeB_all (by rw[←hN,←hN'];exact h1) (by rw[←hN];exact h2)
 clear hN hN' hla hlb
 by_cases hne:n=n'
 ·subst hne
  have HEnd2:Hid _:=fun h=>HEnd.out rfl h
  clear HEnd HLen
  go_enter Tryz.func30,Tryz.ntmps30
  go_wp2_with fail
  go_loopw [5] (fun i wr=>∃k:Nat,k≤n∧i=.int .i64 k∧Hid (likeB textEq (la.take k) (lb.take k)=true)∧Hid (Below w.heap.size w wr)) (fun i _=>n-(intOf i).toNat)
  case atStart=>exact⟨0,by omega,rfl,by simp[Hid,likeB],Below.refl _ _⟩
  case round =>
   obtain⟨k,hk,rfl,HT,HB⟩:=hrel
   by_cases hlt:k<n
   ·have hka:k<la.length:=by rw[←HN.out];exact hlt
    have hkb:k<lb.length:=by rw[←HN'.out];exact hlt
    obtain⟨b,o,rfl,hbl,hr⟩:=HLa.out (by intro h;rw[h] at hka;simp at hka)
    obtain⟨b',o',rfl,hbl',hr'⟩:=HLb.out (by intro h;rw[h] at hkb;simp at hkb)
    have c0:wr.cell? ⟨b,o+k,none⟩=some (.string la[k]):=by
     have:=hr k hka 0 (by omega)
     rw[Nat.mul_one,Nat.add_zero] at this
     exact(HB.out.cell (p:=⟨b,o+k,none⟩) hbl).trans this
    have d0:wr.cell? ⟨b',o'+k,none⟩=some (.string lb[k]):=by
     have:=hr' k hkb 0 (by omega)
     rw[Nat.mul_one,Nat.add_zero] at this
     exact(HB.out.cell (p:=⟨b',o'+k,none⟩) hbl').trans this
    have HAt:Hid _:=likeB_at textEq la lb k hka hkb
    have HFa:Hid (textEq la[k] lb[k]=false→likeB textEq la lb=false):=fun h=>likeB_false textEq la lb k hka hkb h
    have HE:Hid (textEq la[k] lb[k]=(la[k].toList==lb[k].toList)):=rfl
    generalize la[k]=x at *
    generalize lb[k]=y at *
    generalize textEq x y=q at *
    have hq:=HE.out.symm
    clear hr hr' HE
    cases q
    ·go_wp2_with fail
     go_quiet (fail)
     go_wp2_with fail
     go_ret
     exact⟨same_ret (HFa.out (by first|rfl|trivial)).symm,HB.out.trans ⟨rfl,rfl,rfl,Nat.le_refl _,fun _ _=>rfl⟩⟩
    ·go_wp2_with fail
     go_quiet (fail)
     go_wp2_with fail
     go_roundw
     case rel=>exact⟨k+1,by omega,by go_num,by rw[Hid,HAt.out,HT.out];rfl,HB.out.trans ⟨rfl,rfl,rfl,Nat.le_refl _,fun _ _=>rfl⟩⟩
     case measure=>simp[intOf];omega
   ·obtain rfl:k=n:=by omega
    go_wp2_with fail
    go_ret
    exact⟨same_ret (HEnd2.out HT.out).symm,HB.out⟩
 ·have hne':¬(n:Int)=(n':Int):=by omega
  go_enter Tryz.func30,Tryz.ntmps30
  go_wp2_with fail
  go_ret
  exact⟨same_ret (HLen.out hne).symm,Below.refl _ _⟩
set_option maxRecDepth 100000 in
set_option maxHeartbeats 12800000 in
theorem refSameParams_calls(la lb:List Pm)(aa ab:Option Addr)(ca cb:Nat)(hn:la.length≤1048576)(hn':lb.length≤1048576)(w:World)(hla:rowIn Pm.cells 7 w aa la)(hlb:rowIn Pm.cells 7 w ab lb) :
  Calls Tryz.prog 29 #[.slice aa la.length ca,.slice ab lb.length cb] w fun x w'=>x=.returned (.bool (likeB pmSame la lb))∧Below w.heap.size w w':=by
 obtain⟨n,hN⟩:=nw (la.length)
 obtain⟨n',hN'⟩:∃n',n'=lb.length:=⟨_,rfl⟩
 have HN:=hid hN
 have HN':=hid hN'
 rw[←hN] at hn ⊢
 rw[←hN'] at hn' ⊢
 have HLa:=hid hla
 have HLb:=hid hlb
 have HLen:Hid (n≠n'→likeB pmSame la lb=false):=fun h=>likeB_len pmSame la lb (by rw[←hN,←hN'];exact h)
 have HEnd:Hid (n=n'→likeB pmSame (la.take n) (lb.take n)=true→likeB pmSame la lb=true):=fun h1 h2=>likeB_all (by rw[←hN,←hN'];exact h1) (by rw[←hN];exact h2)
 clear hN hN' hla hlb
 by_cases hne:n=n'
 ·subst hne
  have HEnd2:Hid _:=fun h=>HEnd.out rfl h
  clear HEnd HLen
  go_enter Tryz.func29,Tryz.ntmps29
  go_wp2_with fail
  go_loopw [5] (fun i wr=>∃k:Nat,k≤n∧i=.int .i64 k∧Hid (likeB pmSame (la.take k) (lb.take k)=true)∧Hid (Below w.heap.size w wr)) (fun i _=>n-(intOf i).toNat)
  case atStart=>exact⟨0,by omega,rfl,by simp[Hid,likeB],Below.refl _ _⟩
  case round =>
   obtain⟨k,hk,rfl,HT,HB⟩:=hrel
   by_cases hlt:k<n
   ·have hka:k<la.length:=by rw[←HN.out];exact hlt
    have hkb:k<lb.length:=by rw[←HN'.out];exact hlt
    obtain⟨b,o,rfl,hbl,hr⟩:=HLa.out (by intro h;rw[h] at hka;simp at hka)
    obtain⟨b',o',rfl,hbl',hr'⟩:=HLb.out (by intro h;rw[h] at hkb;simp at hkb)
    have hA:∀j,j<7→wr.cell? ⟨b,o+k*7+j,none⟩=la[k].cells[j]?:=fun j hj=>(HB.out.cell (p:=⟨b,o+k*7+j,none⟩) hbl).trans (hr k hka j hj)
    have hBc:∀j,j<7→wr.cell? ⟨b',o'+k*7+j,none⟩=lb[k].cells[j]?:=fun j hj=>(HB.out.cell (p:=⟨b',o'+k*7+j,none⟩) hbl').trans (hr' k hkb j hj)
    have hlt1:=Nat.lt_of_lt_of_le hbl HB.out.size
    have hlt2:=Nat.lt_of_lt_of_le hbl' HB.out.size
    have HAt:Hid _:=likeB_at pmSame la lb k hka hkb
    have HFa:Hid (pmSame la[k] lb[k]=false→likeB pmSame la lb=false):=fun h=>likeB_false pmSame la lb k hka hkb h
    have HE:Hid (pmSame la[k] lb[k]=((la[k].nm.toList==lb[k].nm.toList)&&(la[k].ty==lb[k].ty)&&(la[k].rt==lb[k].rt)&&(la[k].pd==lb[k].pd)&&(la[k].st==lb[k].st)&&(la[k].du==lb[k].du))):=rfl
    generalize pmSame la[k] lb[k]=q at *
    generalize la[k]=x at *
    generalize lb[k]=y at *
    obtain⟨nm,ty,pl,rt,pd,st,du⟩:=x
    obtain⟨nm',ty',pl',rt',pd',st',du'⟩:=y
    have c0:wr.cell? ⟨b,o+k*7,none⟩=some (.string nm):=hA 0 (by omega)
    have c1:wr.cell? ⟨b,o+k*7+1,none⟩=some (.int .u8 ty):=hA 1 (by omega)
    have c2:wr.cell? ⟨b,o+k*7+2,none⟩=some (.int .i64 pl):=hA 2 (by omega)
    have c3:wr.cell? ⟨b,o+k*7+3,none⟩=some (.bool rt):=hA 3 (by omega)
    have c4:wr.cell? ⟨b,o+k*7+4,none⟩=some (.int .i64 pd):=hA 4 (by omega)
    have c5:wr.cell? ⟨b,o+k*7+5,none⟩=some (.int .i64 st):=hA 5 (by omega)
    have c6:wr.cell? ⟨b,o+k*7+6,none⟩=some (.int .i64 du):=hA 6 (by omega)
    have d0:wr.cell? ⟨b',o'+k*7,none⟩=some (.string nm'):=hBc 0 (by omega)
    have d1:wr.cell? ⟨b',o'+k*7+1,none⟩=some (.int .u8 ty'):=hBc 1 (by omega)
    have d2:wr.cell? ⟨b',o'+k*7+2,none⟩=some (.int .i64 pl'):=hBc 2 (by omega)
    have d3:wr.cell? ⟨b',o'+k*7+3,none⟩=some (.bool rt'):=hBc 3 (by omega)
    have d4:wr.cell? ⟨b',o'+k*7+4,none⟩=some (.int .i64 pd'):=hBc 4 (by omega)
    have d5:wr.cell? ⟨b',o'+k*7+5,none⟩=some (.int .i64 st'):=hBc 5 (by omega)
    have d6:wr.cell? ⟨b',o'+k*7+6,none⟩=some (.int .i64 du'):=hBc 6 (by omega)
    simp only at HE
    have HBn:Hid (Below w.heap.size w (wr.alloc (.cells #[.string nm,.int .u8 ty,.int .i64 pl',.bool rt,.int .i64 pd,.int .i64 st,.int .i64 du] 62))):=HB.out.alloc HB.out.size _
    clear hA hBc hr hr'
    cases h1:(nm.toList==nm'.toList)
    ·go_wp2_with fail
     go_quiet (fail)
     go_wp2_with fail
     go_ret
     exact⟨same_ret (HFa.out (by rw[HE.out];simp[*])).symm,HBn.out.trans ⟨rfl,rfl,rfl,Nat.le_refl _,fun _ _=>rfl⟩⟩
    ·by_cases h2:ty=ty'
     ·subst h2
      by_cases h3:rt=rt'
      ·subst h3
       by_cases h4:pd=pd'
       ·subst h4
        by_cases h5:st=st'
        ·subst h5
         by_cases h6:du=du'
         ·subst h6
          have e:q=true:=by rw[HE.out];simp[*]
          go_wp2_with fail
          go_quiet (fail)
          go_wp2_with fail
          go_roundw
          case rel=>exact⟨k+1,by omega,by go_num,by rw[Hid,HAt.out,HT.out,e];rfl,HBn.out.trans ⟨rfl,rfl,rfl,Nat.le_refl _,fun _ _=>rfl⟩⟩
          case measure=>simp[intOf];omega
         ·go_wp2_with fail
          go_quiet (fail)
          go_wp2_with fail
          go_ret
          exact⟨same_ret (HFa.out (by rw[HE.out];simp[*])).symm,HBn.out.trans ⟨rfl,rfl,rfl,Nat.le_refl _,fun _ _=>rfl⟩⟩
        ·go_wp2_with fail
         go_quiet (fail)
         go_wp2_with fail
         go_ret
         exact⟨same_ret (HFa.out (by rw[HE.out];simp[*])).symm,HBn.out.trans ⟨rfl,rfl,rfl,Nat.le_refl _,fun _ _=>rfl⟩⟩
       ·go_wp2_with fail
        go_quiet (fail)
        go_wp2_with fail
        go_ret
        exact⟨same_ret (HFa.out (by rw[HE.out];simp[*])).symm,HBn.out.trans ⟨rfl,rfl,rfl,Nat.le_refl _,fun _ _=>rfl⟩⟩
      ·go_wp2_with fail
       go_quiet (fail)
       go_wp2_with fail
       go_ret
       exact⟨same_ret (HFa.out (by rw[HE.out];simp[*])).symm,HBn.out.trans ⟨rfl,rfl,rfl,Nat.le_refl _,fun _ _=>rfl⟩⟩
     ·go_wp2_with fail
      go_quiet (fail)
      go_wp2_with fail
      go_ret
      exact⟨same_ret (HFa.out (by rw[HE.out];simp[*])).symm,HBn.out.trans ⟨rfl,rfl,rfl,Nat.le_refl _,fun _ _=>rfl⟩⟩
   ·obtain rfl:k=n:=by omega
    go_wp2_with fail
    go_ret
    exact⟨same_ret (HEnd2.out HT.out).symm,HB.out⟩
 ·have hne':¬(n:Int)=(n':Int):=by omega
  go_enter Tryz.func29,Tryz.ntmps29
  go_wp2_with fail
  go_ret
  exact⟨same_ret (HLen.out hne).symm,Below.refl _ _⟩
theorem takeD{P:Program}{md:Region.Mode}{ops:Array Oper}{Q:Exit→Act→World→Prop}{S:World→Prop}{i d:Nat}{oi:Oper}{v:Value}{fuel:Nat}{listed:Array Bool}{a:Act}{w:World}(hi:ops[i]?=some oi)(hd:oi.dst=some d)(hs:Region.noSelect ops=true)(hf:Region.free md ops listed i=true)(hr:(Region.ready md ops listed).contains i=true)(hQ:∀c a w,Q (.panic c) (a.put oi.dst v) w→Q (.panic c) a w)(hy:YieldsIf P ops S oi v a)(hS:S w)(h:wpAnyH P md ops Q S fuel (listed.setIfInBounds i true) (a.put (some d) v) w):wpAnyH P md ops Q S (fuel+1) listed a w:=wpAnyH_take hi hs hf hr hQ hy hS (by rw[hd];exact h)
theorem skipD{P:Program}{md:Region.Mode}{ops:Array Oper}{Q:Exit→Act→World→Prop}{S:World→Prop}{i d:Nat}{oi:Oper}{fuel:Nat}{listed:Array Bool}{a:Act}{w:World}(hi:ops[i]?=some oi)(hd:oi.dst=some d)(hs:Region.noSelect ops=true)(hf:Region.free md ops listed i=true)(hr:(Region.ready md ops listed).contains i=true)(hQ:∀c a w,Q (.panic c) (a.put oi.dst undef) w→Q (.panic c) a w)(hw:Region.wanted oi (yielded ops a.tmps)=false)(hS:S w)(h:wpAnyH P md ops Q S fuel (listed.setIfInBounds i true) (a.put (some d) undef) w):wpAnyH P md ops Q S (fuel+1) listed a w:=wpAnyH_take hi hs hf hr hQ (Or.inr ⟨hw,rfl⟩) hS (by rw[hd];exact h)
set_option maxRecDepth 100000 in
set_option maxHeartbeats 12800000 in
theorem sameProgram_ref(l l':List Nd)(a a':Option Addr)(cap cap':Nat)(hg:Goods l)(hg':Goods l')(w:World)(hl:Lie w a l)(hl':Lie w a' l'):Calls Tryz.prog 13 #[.agg #[.slice a l.length cap],.agg #[.slice a' l'.length cap']] w fun r w'=>r=.returned (.bool (likeB ndSame l l'))∧Below w.heap.size w w':=by
 obtain⟨n,hN⟩:=nw (l.length)
 obtain⟨n',hN'⟩:∃n',n'=l'.length:=⟨_,rfl⟩
 have HN:=hid hN
 have HN':=hid hN'
 have hn:n≤1048576:=by rw[hN];exact hg.2.1
 have hn':n'≤1048576:=by rw[hN'];exact hg'.2.1
 have HG:=hid (hg.1)
 have HG':=hid (hg'.1)
 have HL:=hid hl
 have HL':=hid hl'
 have HLen:Hid (n≠n'→likeB ndSame l l'=false):=fun h=>likeB_len ndSame l l' (by rw[←hN,←hN'];exact h)
 have HEnd:Hid (n=n'→likeB ndSame (l.take n) (l'.take n)=true→likeB ndSame l l'=true):=fun h1 h2=>likeB_all (by rw[←hN,←hN'];exact h1) (by rw[←hN];exact h2)
 rw[←hN,←hN']
 obtain⟨W0,hW0⟩:=nw ((w.alloc (.cells #[.slice a n cap] 24)).alloc (.cells #[.slice a' n' cap'] 24))
 have HB0:Hid (Below w.heap.size w W0):=by rw[hW0];exact(bal _).alloc (by simp) _
 have HS0:Hid (W0.heap.size=w.heap.size+2):=by rw[Hid,hW0];simp
 have HX0:Hid (W0.cell? ⟨w.heap.size,0,none⟩=some (.slice a n cap)∧W0.cell? ⟨w.heap.size+1,0,none⟩=some (.slice a' n' cap')):=by
  rw[Hid,hW0]
  refine⟨?_,?_⟩
  ·rw[World.cell?_alloc_past _ _ _ (by simp),World.cell?_alloc_at _ _ _ _ rfl];rfl
  ·rw[World.cell?_alloc_at _ _ _ _ (by simp)];rfl
 have HW0:Hid _:=hW0
 clear hN hN' hg hg' hl hl' hW0
 by_cases hne:n=n'
 ·subst hne
  have HEnd2:Hid _:=fun h=>HEnd.out rfl h
  clear HEnd HLen
  obtain⟨z0,z1⟩:=HX0.out
  go_enter Tryz.func13,Tryz.ntmps13
  go_wp2_with fail
  rw[←HW0.out]
  go_loopw [5] (fun i wr=>∃k:Nat,k≤n∧i=.int .i64 k∧Hid (likeB ndSame (l.take k) (l'.take k)=true)∧Hid (Below (w.heap.size+2) W0 wr)∧wr.cell? ⟨w.heap.size,0,none⟩=some (.slice a n cap)∧wr.cell? ⟨w.heap.size+1,0,none⟩=some (.slice a' n cap')) (fun i _=>n-(intOf i).toNat)
  case atStart=>exact⟨0,by omega,rfl,by simp[Hid,likeB],Below.refl _ _,z0,z1⟩
  case round =>
   obtain⟨k,hk,rfl,HT,HX,hx0,hx1⟩:=hrel
   have HB:Hid (Below w.heap.size w wr):=HB0.out.trans (HX.out.mono (by omega))
   have HSz:Hid (w.heap.size+2≤wr.heap.size):=by have h1:=HX.out.size;have h2:=HS0.out;rw[Hid];omega
   by_cases hlt:k<n
   ·have hka:k<l.length:=by rw[←HN.out];exact hlt
    have hkb:k<l'.length:=by rw[←HN'.out];exact hlt
    obtain⟨b,o,rfl,hbl,hr⟩:=HL.out.1 (by intro h;rw[h] at hka;simp at hka)
    obtain⟨b',o',rfl,hbl',hr'⟩:=HL'.out.1 (by intro h;rw[h] at hkb;simp at hkb)
    have hl0:w.heap.size<wr.heap.size:=by have:=HSz.out;omega
    have hl1:w.heap.size+1<wr.heap.size:=by have:=HSz.out;omega
    have hlt1:=Nat.lt_of_lt_of_le hbl HB.out.size
    have hlt2:=Nat.lt_of_lt_of_le hbl' HB.out.size
    have hA:∀j,j<7→wr.cell? ⟨b,o+k*7+j,none⟩=l[k].cells[j]?:=fun j hj=>(HB.out.cell (p:=⟨b,o+k*7+j,none⟩) hbl).trans (hr k hka j hj)
    have hBc:∀j,j<7→wr.cell? ⟨b',o'+k*7+j,none⟩=l'[k].cells[j]?:=fun j hj=>(HB.out.cell (p:=⟨b',o'+k*7+j,none⟩) hbl').trans (hr' k hkb j hj)
    have g1:=HG.out _ (List.getElem_mem hka)
    have g2:=HG'.out _ (List.getElem_mem hkb)
    have y1:=HL.out.2 _ (List.getElem_mem hka)
    have y2:=HL'.out.2 _ (List.getElem_mem hkb)
    have HAt:Hid _:=likeB_at ndSame l l' k hka hkb
    have HFa:Hid (ndSame l[k] l'[k]=false→likeB ndSame l l'=false):=fun h=>likeB_false ndSame l l' k hka hkb h
    have HE:Hid (ndSame l[k] l'[k]=(((l[k].fl==l'[k].fl)&&(l[k].nm.toList==l'[k].nm.toList))&&(likeB pmSame l[k].ins l'[k].ins&&(likeB pmSame l[k].outs l'[k].outs&&(likeB pmSame l[k].vars l'[k].vars&&likeB eqSame l[k].eqs l'[k].eqs))))):=rfl
    have P1:LikeIs w 29 #[.slice l[k].ia l[k].ins.length l[k].ic,.slice l'[k].ia l'[k].ins.length l'[k].ic] (likeB pmSame l[k].ins l'[k].ins):=⟨fun w' h=>refSameParams_calls _ _ _ _ _ _ g1.2.1 g2.2.1 w' (rowIn_below y1.1 h) (rowIn_below y2.1 h)⟩
    have P2:LikeIs w 29 #[.slice l[k].oa l[k].outs.length l[k].oc,.slice l'[k].oa l'[k].outs.length l'[k].oc] (likeB pmSame l[k].outs l'[k].outs):=⟨fun w' h=>refSameParams_calls _ _ _ _ _ _ g1.2.2.1 g2.2.2.1 w' (rowIn_below y1.2.1 h) (rowIn_below y2.2.1 h)⟩
    have P3:LikeIs w 29 #[.slice l[k].va l[k].vars.length l[k].vc,.slice l'[k].va l'[k].vars.length l'[k].vc] (likeB pmSame l[k].vars l'[k].vars):=⟨fun w' h=>refSameParams_calls _ _ _ _ _ _ g1.2.2.2.1 g2.2.2.2.1 w' (rowIn_below y1.2.2.1 h) (rowIn_below y2.2.2.1 h)⟩
    have HQ1:Hid ((∀x∈l[k].eqs,x.good∧x.lies w)∧rowIn Eqn.cells 8 w l[k].qa l[k].eqs):=⟨fun x hx=>⟨g1.2.2.2.2.2.2.2.2 x hx,y1.2.2.2.2 x hx⟩,y1.2.2.2.1⟩
    have HQ2:Hid ((∀x∈l'[k].eqs,x.good∧x.lies w)∧rowIn Eqn.cells 8 w l'[k].qa l'[k].eqs):=⟨fun x hx=>⟨g2.2.2.2.2.2.2.2.2 x hx,y2.2.2.2.2 x hx⟩,y2.2.2.2.1⟩
    have hm:=g1.2.2.2.2.1
    have hm':=g2.2.2.2.2.1
    generalize ndSame l[k] l'[k]=q0 at *
    generalize likeB pmSame l[k].ins l'[k].ins=r1 at *
    generalize likeB pmSame l[k].outs l'[k].outs=r2 at *
    generalize likeB pmSame l[k].vars l'[k].vars=r3 at *
    clear g1 g2 y1 y2 hr hr'
    generalize l[k]=y at *
    generalize l'[k]=y' at *
    obtain⟨W1,hW1⟩:=nw ((wr.alloc (.cells y.cells.toArray 60)).alloc (.cells y'.cells.toArray 60))
    have hbW1:Below wr.heap.size wr W1:=by rw[hW1];exact(bal _).alloc (by simp) _
    have hsW1:W1.heap.size=wr.heap.size+2:=by rw[hW1];simp
    have hcA:∀j,j<7→W1.cell? ⟨wr.heap.size,j,none⟩=y.cells[j]?:=fun j hj=>by rw[hW1,World.cell?_alloc_past _ _ _ (by simp)];exact cell_alloc_eq rfl
    have hcB:∀j,j<7→W1.cell? ⟨wr.heap.size+1,j,none⟩=y'.cells[j]?:=fun j hj=>by rw[hW1];exact cell_alloc_eq (by simp)
    obtain⟨fl,nm,pl,ia,ic,ins,oa,oc,outs,va,vc,vars,qa,qc,eqs⟩:=y
    obtain⟨fl',nm',pl',ia',ic',ins',oa',oc',outs',va',vc',vars',qa',qc',eqs'⟩:=y'
    simp only at P1 P2 P3 HE HQ1 HQ2 hm hm'
    have c0:wr.cell? ⟨b,o+k*7,none⟩=some (.bool fl):=hA 0 (by omega)
    have c1:wr.cell? ⟨b,o+k*7+1,none⟩=some (.string nm):=hA 1 (by omega)
    have c2:wr.cell? ⟨b,o+k*7+2,none⟩=some (.int .i64 pl):=hA 2 (by omega)
    have c3:wr.cell? ⟨b,o+k*7+3,none⟩=some (.slice ia ins.length ic):=hA 3 (by omega)
    have c4:wr.cell? ⟨b,o+k*7+4,none⟩=some (.slice oa outs.length oc):=hA 4 (by omega)
    have c5:wr.cell? ⟨b,o+k*7+5,none⟩=some (.slice va vars.length vc):=hA 5 (by omega)
    have c6:wr.cell? ⟨b,o+k*7+6,none⟩=some (.slice qa eqs.length qc):=hA 6 (by omega)
    have d0:wr.cell? ⟨b',o'+k*7,none⟩=some (.bool fl'):=hBc 0 (by omega)
    have d1:wr.cell? ⟨b',o'+k*7+1,none⟩=some (.string nm'):=hBc 1 (by omega)
    have d2:wr.cell? ⟨b',o'+k*7+2,none⟩=some (.int .i64 pl'):=hBc 2 (by omega)
    have d3:wr.cell? ⟨b',o'+k*7+3,none⟩=some (.slice ia' ins'.length ic'):=hBc 3 (by omega)
    have d4:wr.cell? ⟨b',o'+k*7+4,none⟩=some (.slice oa' outs'.length oc'):=hBc 4 (by omega)
    have d5:wr.cell? ⟨b',o'+k*7+5,none⟩=some (.slice va' vars'.length vc'):=hBc 5 (by omega)
    have d6:wr.cell? ⟨b',o'+k*7+6,none⟩=some (.slice qa' eqs'.length qc'):=hBc 6 (by omega)
    have HC:Hid (∀w',Below (wr.heap.size+2) W1 w'→(w'.cell? ⟨wr.heap.size,3,none⟩=some (.slice ia ins.length ic)∧w'.cell? ⟨wr.heap.size,4,none⟩=some (.slice oa outs.length oc)∧w'.cell? ⟨wr.heap.size,5,none⟩=some (.slice va vars.length vc)∧w'.cell? ⟨wr.heap.size,6,none⟩=some (.slice qa eqs.length qc))∧w'.cell? ⟨wr.heap.size+1,3,none⟩=some (.slice ia' ins'.length ic')∧w'.cell? ⟨wr.heap.size+1,4,none⟩=some (.slice oa' outs'.length oc')∧w'.cell? ⟨wr.heap.size+1,5,none⟩=some (.slice va' vars'.length vc')∧w'.cell? ⟨wr.heap.size+1,6,none⟩=some (.slice qa' eqs'.length qc')):=fun w' h=>by
     have hX:∀j,j<7→w'.cell? ⟨wr.heap.size,j,none⟩=_:=fun j hj=>(h.cell (p:=⟨wr.heap.size,j,none⟩) (by show wr.heap.size<wr.heap.size+2;omega)).trans (hcA j hj)
     have hY:∀j,j<7→w'.cell? ⟨wr.heap.size+1,j,none⟩=_:=fun j hj=>(h.cell (p:=⟨wr.heap.size+1,j,none⟩) (by show wr.heap.size+1<wr.heap.size+2;omega)).trans (hcB j hj)
     exact⟨⟨hX 3 (by omega),hX 4 (by omega),hX 5 (by omega),hX 6 (by omega)⟩,hY 3 (by omega),hY 4 (by omega),hY 5 (by omega),hY 6 (by omega)⟩
    have toW:Hid (∀w',Below (wr.heap.size+2) W1 w'→Hid (Below w.heap.size w w')∧Hid (Below (w.heap.size+2) W0 w')∧w'.cell? ⟨w.heap.size,0,none⟩=some (.slice (some ⟨b,o,none⟩) n cap)∧w'.cell? ⟨w.heap.size+1,0,none⟩=some (.slice (some ⟨b',o',none⟩) n cap')):=fun w' h=>by
     have h2:Below wr.heap.size wr w':=hbW1.trans (h.mono (by omega))
     have h3:=HSz.out
     exact⟨HB.out.trans (h2.mono HB.out.size),HX.out.trans (h2.mono h3),(h2.cell (p:=⟨w.heap.size,0,none⟩) (by show w.heap.size<wr.heap.size;omega)).trans hx0,(h2.cell (p:=⟨w.heap.size+1,0,none⟩) (by show w.heap.size+1<wr.heap.size;omega)).trans hx1⟩
    have K0:Hid (Below (wr.heap.size+2) W1 W1):=Below.refl _ _
    have bl:Hid (∀(w' w'':World),Hid (Below (wr.heap.size+2) W1 w')→Below w'.heap.size w' w''→Hid (Below (wr.heap.size+2) W1 w'')):=fun w' w'' h1 h2=>h1.out.trans (h2.mono (by have:=h1.out.size;omega))
    simp only[Nd.cells,List.toArray] at hW1
    have HW1:Hid _:=hW1
    clear hA hBc hcA hcB hW1 hbW1 hsW1
    by_cases hf:(fl==fl')=true∧(nm.toList==nm'.toList)=true
    ·obtain⟨hf1,hf2⟩:=hf
     have HE1:Hid (q0=(r1&&(r2&&(r3&&likeB eqSame eqs eqs')))):=by rw[Hid,HE.out,hf1,hf2];rfl
     clear HE
     go_wp2_with fail
     rw[←HW1.out]
     refine(P1.out _ (toW.out _ K0.out).1).mono ?_
     rintro x w1 ⟨rfl,hb1⟩
     have K1:=bl.out _ w1 K0 hb1
     clear hb1 HW1 c0 c1 c2 c3 c4 c5 c6 d0 d1 d2 d3 d4 d5 d6
     obtain⟨⟨x3,x4,x5,x6⟩,u3,u4,u5,u6⟩:=HC.out w1 K1.out
     cases r1
     ·go_wp2_with fail
      go_ret
      exact⟨same_ret (HFa.out (by rw[HE1.out];rfl)).symm,(toW.out _ K1.out).1.out⟩
     ·go_wp2_with fail
      refine(P2.out _ (toW.out _ K1.out).1).mono ?_
      rintro x w2 ⟨rfl,hb2⟩
      have K2:=bl.out _ w2 K1 hb2
      clear x3 x4 x5 x6 u3 u4 u5 u6 hb2
      obtain⟨⟨x3,x4,x5,x6⟩,u3,u4,u5,u6⟩:=HC.out w2 K2.out
      cases r2
      ·go_wp2_with fail
       go_ret
       exact⟨same_ret (HFa.out (by rw[HE1.out];rfl)).symm,(toW.out _ K2.out).1.out⟩
      ·go_wp2_with fail
       refine(P3.out _ (toW.out _ K2.out).1).mono ?_
       rintro x w3 ⟨rfl,hb3⟩
       have K3:=bl.out _ w3 K2 hb3
       clear x3 x4 x5 x6 u3 u4 u5 u6 hb3
       obtain⟨⟨x3,x4,x5,x6⟩,u3,u4,u5,u6⟩:=HC.out w3 K3.out
       cases r3
       ·go_wp2_with fail
        go_ret
        exact⟨same_ret (HFa.out (by rw[HE1.out];rfl)).symm,(toW.out _ K3.out).1.out⟩
       ·have HE2:Hid (q0=likeB eqSame eqs eqs'):=by rw[Hid,HE1.out];rfl
        clear HE1
        by_cases hmm:eqs.length=eqs'.length
        ·obtain⟨m,hM⟩:=nw (eqs.length)
         have HM:=hid hM
         have HM':=hid (hM.trans hmm)
         have HEe:Hid (likeB eqSame (eqs.take m) (eqs'.take m)=true→q0=true):=fun h=>by rw[HE2.out];exact likeB_all hmm (by rw[←hM];exact h)
         simp only[←hmm,←hM] at x6 u6 hm HC
         clear hM hmm hm'
         clear x3 x4 x5 u3 u4 u5
         generalize hB1:wr.heap.size=B1 at *
         go_wp2_with fail
         go_loopw [8] (fun i wq=>∃j:Nat,j≤m∧i=.int .i64 j∧Hid (likeB eqSame (eqs.take j) (eqs'.take j)=true)∧Hid (Below (B1+2) W1 wq)∧wq.cell? ⟨B1,6,none⟩=some (.slice qa m qc)∧wq.cell? ⟨B1+1,6,none⟩=some (.slice qa' m qc')) (fun i _=>m-(intOf i).toNat)
         case atStart=>exact⟨0,by omega,rfl,by simp[Hid,likeB],K3,x6,u6⟩
         case round =>
          obtain⟨j,hj,rfl,HTj,Kq,h6,k6⟩:=hrel
          by_cases hjl:j<m
          ·have hja:j<eqs.length:=by rw[←HM.out];exact hjl
           have hjb:j<eqs'.length:=by rw[←HM'.out];exact hjl
           obtain⟨b2,o2,rfl,hbl2,hr2⟩:=HQ1.out.2 (by intro h;rw[h] at hja;simp at hja)
           obtain⟨b3,o3,rfl,hbl3,hr3⟩:=HQ2.out.2 (by intro h;rw[h] at hjb;simp at hjb)
           have e1:=HQ1.out.1 _ (List.getElem_mem hja)
           have e2:=HQ2.out.1 _ (List.getElem_mem hjb)
           have HA2:Hid (∀w',Hid (Below w.heap.size w w')→∀i,i<8→w'.cell? ⟨b2,o2+j*8+i,none⟩=eqs[j].cells[i]?):=fun w' h i hi=>(h.out.cell (p:=⟨b2,o2+j*8+i,none⟩) hbl2).trans (hr2 j hja i hi)
           have HA3:Hid (∀w',Hid (Below w.heap.size w w')→∀i,i<8→w'.cell? ⟨b3,o3+j*8+i,none⟩=eqs'[j].cells[i]?):=fun w' h i hi=>(h.out.cell (p:=⟨b3,o3+j*8+i,none⟩) hbl3).trans (hr3 j hjb i hi)
           have T1:LikeIs w 30 #[.slice eqs[j].na eqs[j].ns.length eqs[j].nc,.slice eqs'[j].na eqs'[j].ns.length eqs'[j].nc] (likeB textEq eqs[j].ns eqs'[j].ns):=⟨fun w' h=>refTexts_calls _ _ _ _ _ _ e1.1.2.1 e2.1.2.1 w' (rowIn_below e1.2.1 h) (rowIn_below e2.2.1 h)⟩
           have T2:LikeIs w 16 #[eqs[j].e.val,eqs'[j].e.val] (eqs[j].e.same eqs'[j].e):=⟨fun w' h=>same_ex _ _ _ (Nat.le_refl _) (Nat.le_trans (size_bulk _) e1.1.2.2.2) (Nat.le_trans (size_bulk _) e2.1.2.2.2) w' (lies_below h _ e1.2.2) (lies_below h _ e2.2.2)⟩
           have HAj:Hid _:=likeB_at eqSame eqs eqs' j hja hjb
           have HFj:Hid (eqSame eqs[j] eqs'[j]=false→q0=false):=fun h=>by rw[HE2.out];exact likeB_false eqSame eqs eqs' j hja hjb h
           have HEj:Hid (eqSame eqs[j] eqs'[j]=(likeB textEq eqs[j].ns eqs'[j].ns&&eqs[j].e.same eqs'[j].e)):=rfl
           clear e1 e2 hr2 hr3
           generalize eqSame eqs[j] eqs'[j]=qe at *
           generalize likeB textEq eqs[j].ns eqs'[j].ns=t1 at *
           generalize eqs[j].e.same eqs'[j].e=t2 at *
           generalize eqs[j]=z at *
           generalize eqs'[j]=z' at *
           obtain⟨na1,nc1,ns1,pq1,⟨kd1,pm1,nn1,it1,dn1,aa1,ca1,ll1⟩⟩:=z
           obtain⟨na2,nc2,ns2,pq2,⟨kd2,pm2,nn2,it2,dn2,aa2,ca2,ll2⟩⟩:=z'
           simp only[Ex.val,Ex.cells,List.toArray] at T1 T2
           have HSS:Hid (∀w',Hid (Below (B1+2) W1 w')→Hid (Below (B1+2) W1 w')∧w'.cell? ⟨B1,6,none⟩=some (.slice (some ⟨b2,o2,none⟩) m qc)∧w'.cell? ⟨B1+1,6,none⟩=some (.slice (some ⟨b3,o3,none⟩) m qc')∧w'.cell? ⟨b2,o2+j*8,none⟩=some (.slice na1 ns1.length nc1)∧w'.cell? ⟨b2,o2+j*8+2,none⟩=some (.int .u8 kd1)∧w'.cell? ⟨b2,o2+j*8+2+1,none⟩=some (.int .i64 pm1)∧w'.cell? ⟨b2,o2+j*8+2+2,none⟩=some (.string nn1)∧w'.cell? ⟨b2,o2+j*8+2+3,none⟩=some (.int .i64 it1)∧w'.cell? ⟨b2,o2+j*8+2+4,none⟩=some (.int .i64 dn1)∧w'.cell? ⟨b2,o2+j*8+2+5,none⟩=some (.slice aa1 ll1.length ca1)∧w'.cell? ⟨b3,o3+j*8,none⟩=some (.slice na2 ns2.length nc2)∧w'.cell? ⟨b3,o3+j*8+2,none⟩=some (.int .u8 kd2)∧w'.cell? ⟨b3,o3+j*8+2+1,none⟩=some (.int .i64 pm2)∧w'.cell? ⟨b3,o3+j*8+2+2,none⟩=some (.string nn2)∧w'.cell? ⟨b3,o3+j*8+2+3,none⟩=some (.int .i64 it2)∧w'.cell? ⟨b3,o3+j*8+2+4,none⟩=some (.int .i64 dn2)∧w'.cell? ⟨b3,o3+j*8+2+5,none⟩=some (.slice aa2 ll2.length ca2)):=fun w' h=>by
            have hw:=(toW.out w' h.out).1
            have hc:=HC.out w' h.out
            exact⟨h,hc.1.2.2.2,hc.2.2.2.2,HA2.out w' hw 0 (by omega),HA2.out w' hw 2 (by omega),HA2.out w' hw 3 (by omega),HA2.out w' hw 4 (by omega),HA2.out w' hw 5 (by omega),HA2.out w' hw 6 (by omega),HA2.out w' hw 7 (by omega),HA3.out w' hw 0 (by omega),HA3.out w' hw 2 (by omega),HA3.out w' hw 3 (by omega),HA3.out w' hw 4 (by omega),HA3.out w' hw 5 (by omega),HA3.out w' hw 6 (by omega),HA3.out w' hw 7 (by omega)⟩
           have Kd:=hid (Below.drew Kq.out)
           clear h6 k6
           obtain⟨-,s0,s1,s2,s3,s4,s5,s6,s7,s8,s9,s10,s11,s12,s13,s14,s15⟩:=HSS.out wr Kq
           cases t1
           ·go_wp2_with fail
            refine wp_region_noPanic ?_
            refine wp_region_held_drew (S:=(fun w'=>Hid (Below (B1+2) W1 w')∧w'.cell? ⟨B1,6,none⟩=some (.slice (some ⟨b2,o2,none⟩) m qc)∧w'.cell? ⟨B1+1,6,none⟩=some (.slice (some ⟨b3,o3,none⟩) m qc')∧w'.cell? ⟨b2,o2+j*8,none⟩=some (.slice na1 ns1.length nc1)∧w'.cell? ⟨b2,o2+j*8+2,none⟩=some (.int .u8 kd1)∧w'.cell? ⟨b2,o2+j*8+2+1,none⟩=some (.int .i64 pm1)∧w'.cell? ⟨b2,o2+j*8+2+2,none⟩=some (.string nn1)∧w'.cell? ⟨b2,o2+j*8+2+3,none⟩=some (.int .i64 it1)∧w'.cell? ⟨b2,o2+j*8+2+4,none⟩=some (.int .i64 dn1)∧w'.cell? ⟨b2,o2+j*8+2+5,none⟩=some (.slice aa1 ll1.length ca1)∧w'.cell? ⟨b3,o3+j*8,none⟩=some (.slice na2 ns2.length nc2)∧w'.cell? ⟨b3,o3+j*8+2,none⟩=some (.int .u8 kd2)∧w'.cell? ⟨b3,o3+j*8+2+1,none⟩=some (.int .i64 pm2)∧w'.cell? ⟨b3,o3+j*8+2+2,none⟩=some (.string nn2)∧w'.cell? ⟨b3,o3+j*8+2+3,none⟩=some (.int .i64 it2)∧w'.cell? ⟨b3,o3+j*8+2+4,none⟩=some (.int .i64 dn2)∧w'.cell? ⟨b3,o3+j*8+2+5,none⟩=some (.slice aa2 ll2.length ca2))) (by kernel_rfl) (by(try dsimp only);go_simp) (fun hHeld=>?_)
            refine takeD (i:=0) (v:=?_) rfl rfl (by kernel_rfl) (by kernel_rfl) (by kernel_rfl) (fun _ _ _ h=>h) (Or.inl ⟨by rfl,?_⟩) (by assumption) ?_
            rotate_left
            ·intro w hSw;(try dsimp only at hSw);first|(go_simp;done)|(go_simp;with_reducible rfl)
            try simp only[Act.put,List.setIfInBounds_toArray,List.set_cons_zero,List.set_cons_succ]
            refine takeD (i:=1) (v:=?_) rfl rfl (by kernel_rfl) (by kernel_rfl) (by kernel_rfl) (fun _ _ _ h=>h) (Or.inl ⟨by rfl,?_⟩) (by assumption) ?_
            rotate_left
            ·intro w hSw;(try dsimp only at hSw);first|(go_simp;done)|(go_simp;with_reducible rfl)
            try simp only[Act.put,List.setIfInBounds_toArray,List.set_cons_zero,List.set_cons_succ]
            refine takeD (i:=2) (v:=?_) rfl rfl (by kernel_rfl) (by kernel_rfl) (by kernel_rfl) (fun _ _ _ h=>h) (Or.inl ⟨by rfl,?_⟩) (by assumption) ?_
            rotate_left
            ·intro w hSw;(try dsimp only at hSw);first|(go_simp;done)|(go_simp;with_reducible rfl)
            try simp only[Act.put,List.setIfInBounds_toArray,List.set_cons_zero,List.set_cons_succ]
            refine takeD (i:=3) (v:=?_) rfl rfl (by kernel_rfl) (by kernel_rfl) (by kernel_rfl) (fun _ _ _ h=>h) (Or.inl ⟨by rfl,?_⟩) (by assumption) ?_
            rotate_left
            ·intro w hSw;(try dsimp only at hSw);first|(go_simp;done)|(go_simp;with_reducible rfl)
            try simp only[Act.put,List.setIfInBounds_toArray,List.set_cons_zero,List.set_cons_succ]
            refine takeD (i:=4) (v:=?_) rfl rfl (by kernel_rfl) (by kernel_rfl) (by kernel_rfl) (fun _ _ _ h=>h) (Or.inl ⟨by rfl,?_⟩) (by assumption) ?_
            rotate_left
            ·intro w hSw;(try dsimp only at hSw);first|(go_simp;done)|(go_simp;with_reducible rfl)
            try simp only[Act.put,List.setIfInBounds_toArray,List.set_cons_zero,List.set_cons_succ]
            refine takeD (i:=5) (v:=?_) rfl rfl (by kernel_rfl) (by kernel_rfl) (by kernel_rfl) (fun _ _ _ h=>h) (Or.inl ⟨by rfl,?_⟩) (by assumption) ?_
            rotate_left
            ·intro w hSw;(try dsimp only at hSw);first|(go_simp;done)|(go_simp;with_reducible rfl)
            try simp only[Act.put,List.setIfInBounds_toArray,List.set_cons_zero,List.set_cons_succ]
            refine takeD (i:=6) (v:=?_) rfl rfl (by kernel_rfl) (by kernel_rfl) (by kernel_rfl) (fun _ _ _ h=>h) (Or.inl ⟨by rfl,?_⟩) (by assumption) ?_
            rotate_left
            ·intro w hSw;(try dsimp only at hSw);first|(go_simp;done)|(go_simp;with_reducible rfl)
            try simp only[Act.put,List.setIfInBounds_toArray,List.set_cons_zero,List.set_cons_succ]
            refine takeD (i:=7) (v:=?_) rfl rfl (by kernel_rfl) (by kernel_rfl) (by kernel_rfl) (fun _ _ _ h=>h) (Or.inl ⟨by rfl,?_⟩) (by assumption) ?_
            rotate_left
            ·intro w hSw;(try dsimp only at hSw);first|(go_simp;done)|(go_simp;with_reducible rfl)
            try simp only[Act.put,List.setIfInBounds_toArray,List.set_cons_zero,List.set_cons_succ]
            refine takeD (i:=8) (v:=?_) rfl rfl (by kernel_rfl) (by kernel_rfl) (by kernel_rfl) (fun _ _ _ h=>h) (Or.inl ⟨by rfl,?_⟩) (by assumption) ?_
            rotate_left
            ·intro w hSw;(try dsimp only at hSw);first|(go_simp;done)|(go_simp;with_reducible rfl)
            try simp only[Act.put,List.setIfInBounds_toArray,List.set_cons_zero,List.set_cons_succ]
            refine takeD (i:=9) (v:=?_) rfl rfl (by kernel_rfl) (by kernel_rfl) (by kernel_rfl) (fun _ _ _ h=>h) (Or.inl ⟨by rfl,?_⟩) (by assumption) ?_
            rotate_left
            ·intro w hSw;(try dsimp only at hSw);first|(go_simp;done)|(go_simp;with_reducible rfl)
            try simp only[Act.put,List.setIfInBounds_toArray,List.set_cons_zero,List.set_cons_succ]
            refine takeD (i:=10) (v:=?_) rfl rfl (by kernel_rfl) (by kernel_rfl) (by kernel_rfl) (fun _ _ _ h=>h) (Or.inl ⟨by rfl,?_⟩) (by assumption) ?_
            rotate_left
            ·intro w hSw;(try dsimp only at hSw);first|(go_simp;done)|(go_simp;with_reducible rfl)
            try simp only[Act.put,List.setIfInBounds_toArray,List.set_cons_zero,List.set_cons_succ]
            refine takeD (i:=11) (v:=?_) rfl rfl (by kernel_rfl) (by kernel_rfl) (by kernel_rfl) (fun _ _ _ h=>h) (Or.inl ⟨by rfl,?_⟩) (by assumption) ?_
            rotate_left
            ·intro w hSw;(try dsimp only at hSw);first|(go_simp;done)|(go_simp;with_reducible rfl)
            try simp only[Act.put,List.setIfInBounds_toArray,List.set_cons_zero,List.set_cons_succ]
            refine wpAnyH_ready (rs:=[12]) (by kernel_rfl) (by simp) ?_
            refine AllReadyH.cons rfl (fun K hK=>?_) AllReadyH.nil
            go_simp
            refine(T1.out _ (toW.out _ (Hid.out (by assumption))).1).mono ?_;rintro r w5 ⟨rfl,hb5⟩;obtain⟨hK5,s0,s1,s2,s3,s4,s5,s6,s7,s8,s9,s10,s11,s12,s13,s14,s15⟩:=HSS.out w5 (bl.out _ w5 (by assumption) hb5);clear hb5
            go_wp2_with fail
            refine hK.out _ _ (by(try dsimp only);go_simp) (fun hHeld=>?_)
            clear hK K
            try simp only[Act.put,List.setIfInBounds_toArray,List.set_cons_zero,List.set_cons_succ]
            refine takeD (i:=13) (v:=?_) rfl rfl (by kernel_rfl) (by kernel_rfl) (by kernel_rfl) (fun _ _ _ h=>h) (Or.inl ⟨by rfl,?_⟩) (by assumption) ?_
            rotate_left
            ·intro w hSw;(try dsimp only at hSw);first|(go_simp;done)|(go_simp;with_reducible rfl)
            try simp only[Act.put,List.setIfInBounds_toArray,List.set_cons_zero,List.set_cons_succ]
            refine takeD (i:=14) (v:=?_) rfl rfl (by kernel_rfl) (by kernel_rfl) (by kernel_rfl) (fun _ _ _ h=>h) (Or.inl ⟨by rfl,?_⟩) (by assumption) ?_
            rotate_left
            ·intro w hSw;(try dsimp only at hSw);first|(go_simp;done)|(go_simp;with_reducible rfl)
            try simp only[Act.put,List.setIfInBounds_toArray,List.set_cons_zero,List.set_cons_succ]
            refine skipD (i:=15) rfl rfl (by kernel_rfl) (by kernel_rfl) (by kernel_rfl) (fun _ _ _ h=>h) (by rfl) (by assumption) ?_
            try simp only[Act.put,List.setIfInBounds_toArray,List.set_cons_zero,List.set_cons_succ]
            refine skipD (i:=16) rfl rfl (by kernel_rfl) (by kernel_rfl) (by kernel_rfl) (fun _ _ _ h=>h) (by rfl) (by assumption) ?_
            try simp only[Act.put,List.setIfInBounds_toArray,List.set_cons_zero,List.set_cons_succ]
            refine skipD (i:=17) rfl rfl (by kernel_rfl) (by kernel_rfl) (by kernel_rfl) (fun _ _ _ h=>h) (by rfl) (by assumption) ?_
            try simp only[Act.put,List.setIfInBounds_toArray,List.set_cons_zero,List.set_cons_succ]
            refine skipD (i:=18) rfl rfl (by kernel_rfl) (by kernel_rfl) (by kernel_rfl) (fun _ _ _ h=>h) (by rfl) (by assumption) ?_
            try simp only[Act.put,List.setIfInBounds_toArray,List.set_cons_zero,List.set_cons_succ]
            refine skipD (i:=19) rfl rfl (by kernel_rfl) (by kernel_rfl) (by kernel_rfl) (fun _ _ _ h=>h) (by rfl) (by assumption) ?_
            try simp only[Act.put,List.setIfInBounds_toArray,List.set_cons_zero,List.set_cons_succ]
            refine skipD (i:=20) rfl rfl (by kernel_rfl) (by kernel_rfl) (by kernel_rfl) (fun _ _ _ h=>h) (by rfl) (by assumption) ?_
            try simp only[Act.put,List.setIfInBounds_toArray,List.set_cons_zero,List.set_cons_succ]
            refine skipD (i:=21) rfl rfl (by kernel_rfl) (by kernel_rfl) (by kernel_rfl) (fun _ _ _ h=>h) (by rfl) (by assumption) ?_
            try simp only[Act.put,List.setIfInBounds_toArray,List.set_cons_zero,List.set_cons_succ]
            refine skipD (i:=22) rfl rfl (by kernel_rfl) (by kernel_rfl) (by kernel_rfl) (fun _ _ _ h=>h) (by rfl) (by assumption) ?_
            try simp only[Act.put,List.setIfInBounds_toArray,List.set_cons_zero,List.set_cons_succ]
            refine skipD (i:=23) rfl rfl (by kernel_rfl) (by kernel_rfl) (by kernel_rfl) (fun _ _ _ h=>h) (by rfl) (by assumption) ?_
            try simp only[Act.put,List.setIfInBounds_toArray,List.set_cons_zero,List.set_cons_succ]
            refine skipD (i:=24) rfl rfl (by kernel_rfl) (by kernel_rfl) (by kernel_rfl) (fun _ _ _ h=>h) (by rfl) (by assumption) ?_
            try simp only[Act.put,List.setIfInBounds_toArray,List.set_cons_zero,List.set_cons_succ]
            refine skipD (i:=25) rfl rfl (by kernel_rfl) (by kernel_rfl) (by kernel_rfl) (fun _ _ _ h=>h) (by rfl) (by assumption) ?_
            try simp only[Act.put,List.setIfInBounds_toArray,List.set_cons_zero,List.set_cons_succ]
            refine skipD (i:=26) rfl rfl (by kernel_rfl) (by kernel_rfl) (by kernel_rfl) (fun _ _ _ h=>h) (by rfl) (by assumption) ?_
            try simp only[Act.put,List.setIfInBounds_toArray,List.set_cons_zero,List.set_cons_succ]
            refine skipD (i:=27) rfl rfl (by kernel_rfl) (by kernel_rfl) (by kernel_rfl) (fun _ _ _ h=>h) (by rfl) (by assumption) ?_
            try simp only[Act.put,List.setIfInBounds_toArray,List.set_cons_zero,List.set_cons_succ]
            refine skipD (i:=28) rfl rfl (by kernel_rfl) (by kernel_rfl) (by kernel_rfl) (fun _ _ _ h=>h) (by rfl) (by assumption) ?_
            try simp only[Act.put,List.setIfInBounds_toArray,List.set_cons_zero,List.set_cons_succ]
            refine takeD (i:=29) (v:=?_) rfl rfl (by kernel_rfl) (by kernel_rfl) (by kernel_rfl) (fun _ _ _ h=>h) (Or.inl ⟨by rfl,?_⟩) (by assumption) ?_
            rotate_left
            ·intro w hSw;(try dsimp only at hSw);first|(go_simp;done)|(go_simp;with_reducible rfl)
            try simp only[Act.put,List.setIfInBounds_toArray,List.set_cons_zero,List.set_cons_succ]
            refine wpAnyH_done (by kernel_rfl) ?_ _
            refine NoPanic.normal ?_
            all_goals go_wp2_with fail
            all_goals go_ret
            all_goals exact⟨same_ret (HFa.out (HFj.out (by rw[HEj.out];rfl))).symm,(toW.out _ hK5.out).1.out⟩
           ·cases t2
            ·go_wp2_with fail
             go_region_held3 (fun w'=>Hid (Below (B1+2) W1 w')∧w'.cell? ⟨B1,6,none⟩=some (.slice (some ⟨b2,o2,none⟩) m qc)∧w'.cell? ⟨B1+1,6,none⟩=some (.slice (some ⟨b3,o3,none⟩) m qc')∧w'.cell? ⟨b2,o2+j*8,none⟩=some (.slice na1 ns1.length nc1)∧w'.cell? ⟨b2,o2+j*8+2,none⟩=some (.int .u8 kd1)∧w'.cell? ⟨b2,o2+j*8+2+1,none⟩=some (.int .i64 pm1)∧w'.cell? ⟨b2,o2+j*8+2+2,none⟩=some (.string nn1)∧w'.cell? ⟨b2,o2+j*8+2+3,none⟩=some (.int .i64 it1)∧w'.cell? ⟨b2,o2+j*8+2+4,none⟩=some (.int .i64 dn1)∧w'.cell? ⟨b2,o2+j*8+2+5,none⟩=some (.slice aa1 ll1.length ca1)∧w'.cell? ⟨b3,o3+j*8,none⟩=some (.slice na2 ns2.length nc2)∧w'.cell? ⟨b3,o3+j*8+2,none⟩=some (.int .u8 kd2)∧w'.cell? ⟨b3,o3+j*8+2+1,none⟩=some (.int .i64 pm2)∧w'.cell? ⟨b3,o3+j*8+2+2,none⟩=some (.string nn2)∧w'.cell? ⟨b3,o3+j*8+2+3,none⟩=some (.int .i64 it2)∧w'.cell? ⟨b3,o3+j*8+2+4,none⟩=some (.int .i64 dn2)∧w'.cell? ⟨b3,o3+j*8+2+5,none⟩=some (.slice aa2 ll2.length ca2)) (go_simp) (first
              | (go_at_call 30;refine(T1.out _ (toW.out _ (Hid.out (by assumption))).1).mono ?_;rintro r w5 ⟨rfl,hb5⟩;obtain⟨hK5,s0,s1,s2,s3,s4,s5,s6,s7,s8,s9,s10,s11,s12,s13,s14,s15⟩:=HSS.out w5 (bl.out _ w5 (by assumption) hb5);clear hb5)
              | (go_at_call 16;refine(T2.out _ (toW.out _ (Hid.out (by assumption))).1).mono ?_;rintro r w6 ⟨rfl,hb6⟩;obtain⟨hK6,s0,s1,s2,s3,s4,s5,s6,s7,s8,s9,s10,s11,s12,s13,s14,s15⟩:=HSS.out w6 (bl.out _ w6 (by assumption) hb6);clear hb6))
             all_goals go_wp2_with fail
             all_goals go_ret
             all_goals exact⟨same_ret (HFa.out (HFj.out (by rw[HEj.out];rfl))).symm,(toW.out _ hK6.out).1.out⟩
            ·go_wp2_with fail
             go_region_held3 (fun w'=>Hid (Below (B1+2) W1 w')∧w'.cell? ⟨B1,6,none⟩=some (.slice (some ⟨b2,o2,none⟩) m qc)∧w'.cell? ⟨B1+1,6,none⟩=some (.slice (some ⟨b3,o3,none⟩) m qc')∧w'.cell? ⟨b2,o2+j*8,none⟩=some (.slice na1 ns1.length nc1)∧w'.cell? ⟨b2,o2+j*8+2,none⟩=some (.int .u8 kd1)∧w'.cell? ⟨b2,o2+j*8+2+1,none⟩=some (.int .i64 pm1)∧w'.cell? ⟨b2,o2+j*8+2+2,none⟩=some (.string nn1)∧w'.cell? ⟨b2,o2+j*8+2+3,none⟩=some (.int .i64 it1)∧w'.cell? ⟨b2,o2+j*8+2+4,none⟩=some (.int .i64 dn1)∧w'.cell? ⟨b2,o2+j*8+2+5,none⟩=some (.slice aa1 ll1.length ca1)∧w'.cell? ⟨b3,o3+j*8,none⟩=some (.slice na2 ns2.length nc2)∧w'.cell? ⟨b3,o3+j*8+2,none⟩=some (.int .u8 kd2)∧w'.cell? ⟨b3,o3+j*8+2+1,none⟩=some (.int .i64 pm2)∧w'.cell? ⟨b3,o3+j*8+2+2,none⟩=some (.string nn2)∧w'.cell? ⟨b3,o3+j*8+2+3,none⟩=some (.int .i64 it2)∧w'.cell? ⟨b3,o3+j*8+2+4,none⟩=some (.int .i64 dn2)∧w'.cell? ⟨b3,o3+j*8+2+5,none⟩=some (.slice aa2 ll2.length ca2)) (go_simp) (first
              | (go_at_call 30;refine(T1.out _ (toW.out _ (Hid.out (by assumption))).1).mono ?_;rintro r w5 ⟨rfl,hb5⟩;obtain⟨hK5,s0,s1,s2,s3,s4,s5,s6,s7,s8,s9,s10,s11,s12,s13,s14,s15⟩:=HSS.out w5 (bl.out _ w5 (by assumption) hb5);clear hb5)
              | (go_at_call 16;refine(T2.out _ (toW.out _ (Hid.out (by assumption))).1).mono ?_;rintro r w6 ⟨rfl,hb6⟩;obtain⟨hK6,s0,s1,s2,s3,s4,s5,s6,s7,s8,s9,s10,s11,s12,s13,s14,s15⟩:=HSS.out w6 (bl.out _ w6 (by assumption) hb6);clear hb6))
             all_goals go_wp2_with fail
             all_goals
              (go_roundw
               case rel=>exact⟨j+1,by omega,by go_num,by rw[Hid,HAj.out,HTj.out,HEj.out];rfl,hK6,s0,s1⟩
               case measure=>simp[intOf];omega)
          ·obtain rfl:j=m:=by omega
           obtain⟨tw1,tw2,tw3,tw4⟩:=toW.out wr Kq.out
           go_wp2_with fail
           go_roundw
           case rel=>exact⟨k+1,by omega,by go_num,by rw[Hid,HAt.out,HT.out,HEe.out HTj.out];rfl,tw2,tw3,tw4⟩
           case measure=>simp[intOf];omega
        ·have hmm':¬(eqs.length:Int)=(eqs'.length:Int):=by omega
         go_wp2_with fail
         go_ret
         exact⟨same_ret (HFa.out (by rw[HE2.out];exact likeB_len _ _ _ hmm)).symm,(toW.out _ K3.out).1.out⟩
    ·have HE1:Hid (q0=false):=by
      rw[Hid,HE.out]
      cases h1:(fl==fl')<;>cases h2:(nm.toList==nm'.toList)<;>simp_all
     go_wp2_with fail
     all_goals first
      | (exfalso;simp_all;done)
      | (go_ret;exact⟨same_ret (HFa.out HE1.out).symm,(HB.out.alloc HB.out.size _).alloc (by have:=HB.out.size;simp;omega) _⟩)
   ·obtain rfl:k=n:=by omega
    go_wp2_with fail
    go_ret
    exact⟨same_ret (HEnd2.out HT.out).symm,HB.out⟩
 ·have hne':¬(n:Int)=(n':Int):=by omega
  go_enter Tryz.func13,Tryz.ntmps13
  go_wp2_with fail
  rw[←HW0.out]
  go_ret
  exact⟨same_ret (HLen.out hne).symm,HB0.out⟩
end Go.Proofs.YthbgnpkgglbhjaaGreatDoor
