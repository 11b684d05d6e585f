import Derived.Test.YthbgnpkgglbhjaaGreatDoorTreeMays
namespace Go.Proofs.YthbgnpkgglbhjaaGreatDoor
open Go.RowKit
open Ex.size Ex.depth Ex.lies Ex.bulk Ex.good
set_option maxRecDepth 100000 in
set_option maxHeartbeats 12800000 in
theorem refParams_calls (l : List Pm) (a : Option Addr) (cap : Nat) (rate due : Bool) (hg : ∀ p ∈ l, p.nm.size ≤ 1048576) (hn : l.length ≤ 1048576) (w : World) (hl : rowIn Pm.cells 7 w a l) :
    Calls Tryz.prog 78 #[.slice a l.length cap, .bool rate, .bool due] w fun x w' => x = .returned (.bool (l.all (pmsB rate due))) ∧ Below w.heap.size w w' := by
  obtain ⟨n, hN⟩ : ∃ n, n = l.length := ⟨_, rfl⟩
  rw [← hN] at hn ⊢
  have HN : Hid (n = l.length) := hN
  have HG : Hid _ := hg
  have HL : Hid (rowIn Pm.cells 7 w a l) := hl
  have HE : Hid (∀ k, k ≤ n → (l.take k).all (pmsB rate due) = true → k = n → l.all (pmsB rate due) = true) := fun k _ h e => by rw [e, hN, List.take_length] at h; exact h
  generalize hq : l.all (pmsB rate due) = q at *
  have HQ : Hid (l.all (pmsB rate due) = q) := hq
  clear hN hg hl hq
  go_enter Tryz.func78, Tryz.ntmps78
  go_wp2_with fail
  go_loopw [6, 7] (fun v i wr => ∃ k : Nat, k ≤ n ∧ v = .bool false ∧ i = .int .i64 k ∧ Hid (Below w.heap.size w wr) ∧ Hid ((l.take k).all (pmsB rate due) = true)) (fun _ i _ => n - (intOf i).toNat)
  case atStart => exact ⟨0, by omega, rfl, rfl, Below.refl _ _, by simp [Hid]⟩
  case round =>
    obtain ⟨k, hk, rfl, rfl, HB, HT⟩ := hrel
    by_cases hlt : k < n
    · have hkl : k < l.length := by rw [← HN.out]; exact hlt
      obtain ⟨b, o, rfl, hbl, hrow⟩ := HL.out (by intro h; rw [h] at hkl; simp at hkl)
      have hcr : ∀ j, j < 7 → wr.cell? ⟨b, o + k * 7 + j, none⟩ = l[k].cells[j]? := fun j hj => (HB.out.cell (p := ⟨b, o + k * 7 + j, none⟩) hbl).trans (hrow k hkl j hj)
      have CC := name_calls l[k].nm (wr.alloc (.cells l[k].cells.toArray 62)) (HG.out _ (List.getElem_mem hkl))
      have HNx : Hid ((l.take (k + 1)).all (pmsB rate due) = pmsB rate due l[k]) := by
        rw [Hid, List.take_succ_eq_append_getElem hkl, List.all_append, HT.out]
        simp
      have HFalse : Hid (pmsB rate due l[k] = false → q = false) := fun h => by
        rw [← HQ.out, List.all_eq_false]
        exact ⟨_, List.getElem_mem hkl, by rw [h]; simp⟩
      have HPm : Hid (pmsB rate due l[k] = ((nameB l[k].nm && pmNums l[k]) && !(l[k].rt && !rate) && !(decide (0 < l[k].du) && !due))) := rfl
      have HNum : Hid (pmNums l[k] = ((l[k].ty == 1 || l[k].ty == 2) && decide (0 ≤ l[k].du) && (if l[k].rt then decide (1 ≤ l[k].pd) && decide (0 ≤ l[k].st) else l[k].pd == 0 && l[k].st == 0))) := rfl
      generalize pmsB rate due l[k] = qs at *
      generalize pmNums l[k] = qm at *
      generalize nameB l[k].nm = qn at *
      generalize l[k] = y at *
      obtain ⟨nm, ty, pl, rt, pd, st, du⟩ := y
      have c0 : wr.cell? ⟨b, o + k * 7, none⟩ = some (.string nm) := hcr 0 (by omega)
      have c1 : wr.cell? ⟨b, o + k * 7 + 1, none⟩ = some (.int .u8 ty) := hcr 1 (by omega)
      have c2 : wr.cell? ⟨b, o + k * 7 + 2, none⟩ = some (.int .i64 pl) := hcr 2 (by omega)
      have c3 : wr.cell? ⟨b, o + k * 7 + 3, none⟩ = some (.bool rt) := hcr 3 (by omega)
      have c4 : wr.cell? ⟨b, o + k * 7 + 4, none⟩ = some (.int .i64 pd) := hcr 4 (by omega)
      have c5 : wr.cell? ⟨b, o + k * 7 + 5, none⟩ = some (.int .i64 st) := hcr 5 (by omega)
      have c6 : wr.cell? ⟨b, o + k * 7 + 6, none⟩ = some (.int .i64 du) := hcr 6 (by omega)
      simp only [Pm.cells, List.toArray] at CC
      simp only at HPm HNum
      clear hcr hrow
      go_wp2_with fail
      refine CC.mono ?_
      rintro x w2 ⟨rfl, hgr⟩
      have hb : Below (wr.alloc (.cells #[.string nm, .int .u8 ty, .int .i64 pl, .bool rt, .int .i64 pd, .int .i64 st, .int .i64 du] 62)).heap.size (wr.alloc (.cells #[.string nm, .int .u8 ty, .int .i64 pl, .bool rt, .int .i64 pd, .int .i64 st, .int .i64 du] 62)) w2 := by first | exact hgr | exact hgr.below
      have HB2 : Hid (Below w.heap.size w w2) := HB.out.trans (((Below.refl wr.heap.size wr).alloc (Nat.le_refl _) _).trans (hb.mono (by simp)) |>.mono HB.out.size)
      have d1 : w2.cell? ⟨wr.heap.size, 1, none⟩ = some (.int .u8 ty) := (hb.cell (p := ⟨wr.heap.size, 1, none⟩) (by simp)).trans (by simp)
      have d3 : w2.cell? ⟨wr.heap.size, 3, none⟩ = some (.bool rt) := (hb.cell (p := ⟨wr.heap.size, 3, none⟩) (by simp)).trans (by simp)
      have d4 : w2.cell? ⟨wr.heap.size, 4, none⟩ = some (.int .i64 pd) := (hb.cell (p := ⟨wr.heap.size, 4, none⟩) (by simp)).trans (by simp)
      have d5 : w2.cell? ⟨wr.heap.size, 5, none⟩ = some (.int .i64 st) := (hb.cell (p := ⟨wr.heap.size, 5, none⟩) (by simp)).trans (by simp)
      have d6 : w2.cell? ⟨wr.heap.size, 6, none⟩ = some (.int .i64 du) := (hb.cell (p := ⟨wr.heap.size, 6, none⟩) (by simp)).trans (by simp)
      clear hb hgr CC c0 c1 c2 c3 c4 c5 c6
      have HQs : Hid (qs = ((qn && ((ty == 1 || ty == 2) && decide (0 ≤ du) && (if rt then decide (1 ≤ pd) && decide (0 ≤ st) else pd == 0 && st == 0))) && (!rt || rate) && (!(decide (0 < du)) || due))) := by
        rw [Hid, HPm.out, HNum.out]
        cases rt <;> cases rate <;> cases due <;> cases decide (0 < du) <;> simp
      clear HPm HNum
      cases qn <;> cases rt <;> cases rate <;> cases due
      all_goals go_wp2
      all_goals first
        | (go_ret; exact ⟨bool_ret (HFalse.out (by rw [HQs.out]; simp_all <;> omega)).symm, HB2.out⟩)
        | (have e : qs = true := by rw [HQs.out]; simp_all <;> omega
           go_roundw
           case rel => exact ⟨k + 1, by omega, rfl, by go_num, HB2, by rw [Hid, HNx.out]; exact e⟩
           case measure => simp [intOf]; omega)
    · obtain rfl : k = n := by omega
      go_wp2_with fail
      go_ret
      exact ⟨bool_ret (HE.out k (Nat.le_refl _) HT.out rfl).symm, HB.out⟩
open Ex.shape
set_option maxRecDepth 100000 in
set_option maxHeartbeats 12800000 in
theorem refNode_calls(nd:Nd)(hg:nd.good)(w:World)(hl:nd.lies w):Calls Tryz.prog 41 #[nd.val] w fun x w'=>x=.returned (.bool (ndB nd))∧Below w.heap.size w w':=by
 have hb0:Below w.heap.size w (w.alloc (.cells nd.cells.toArray 60)):=bal _
 have CN:=name_calls nd.nm (w.alloc (.cells nd.cells.toArray 60)) hg.1
 have C1:=fun W (h:Below w.heap.size w W)=>refParams_calls nd.ins nd.ia nd.ic nd.fl false hg.2.2.2.2.2.1 hg.2.1 W (rowIn_below hl.1 h)
 have C2:=fun W (h:Below w.heap.size w W)=>refParams_calls nd.outs nd.oa nd.oc false nd.fl hg.2.2.2.2.2.2.1 hg.2.2.1 W (rowIn_below hl.2.1 h)
 have C3:=fun W (h:Below w.heap.size w W)=>refParams_calls nd.vars nd.va nd.vc false false hg.2.2.2.2.2.2.2.1 hg.2.2.2.1 W (rowIn_below hl.2.2.1 h)
 have HES:Hid (∀(k:Nat)(h:k<nd.eqs.length)(W:World),Below w.heap.size w W→Calls Tryz.prog 79 #[nd.eqs[k].e.val] W fun x w'=>x=.returned (.bool nd.eqs[k].e.shape)∧Below W.heap.size W w'):=fun k h W hb=>by
  have hq:=hg.2.2.2.2.2.2.2.2 _ (List.getElem_mem h)
  have hz:=hl.2.2.2.2 _ (List.getElem_mem h)
  exact shape_calls _ _ (Nat.le_refl _) hq.2.2.2 W (lies_below hb _ hz.2)
 have HEN:Hid (∀(k:Nat)(h:k<nd.eqs.length),rowIn textOf 1 w nd.eqs[k].na nd.eqs[k].ns∧nd.eqs[k].good):=fun k h=>⟨(hl.2.2.2.2 _ (List.getElem_mem h)).1,hg.2.2.2.2.2.2.2.2 _ (List.getElem_mem h)⟩
 have HRow:=hid (hl.2.2.2.1)
 have HB0:Hid _:=hb0
 have HQ:Hid (ndB nd=(nameB nd.nm&&(nd.ins.all (pmsB nd.fl false)&&nd.outs.all (pmsB false nd.fl)&&nd.vars.all (pmsB false false))&&nd.eqs.all eqB)):=rfl
 generalize ndB nd=qb at *
 generalize nameB nd.nm=q0 at *
 generalize nd.ins.all (pmsB nd.fl false)=q1 at *
 generalize nd.outs.all (pmsB false nd.fl)=q2 at *
 generalize nd.vars.all (pmsB false false)=q3 at *
 have hn:=hg.2.2.2.2.1
 obtain⟨fl,nm,pl,ia,ic,ins,oa,oc,outs,va,vc,vars,qa,qc,eqs⟩:=nd
 obtain⟨n,hN⟩:=nw (eqs.length)
 have HN:=hid hN
 simp only[Nd.val,Nd.cells,List.toArray] at *
 rw[←hN] at hn CN HB0 ⊢
 clear hN hg hl hb0
 obtain⟨W0,hW0⟩:=nw (w.alloc (.cells #[.bool fl,.string nm,.int .i64 pl,.slice ia ins.length ic,.slice oa outs.length oc,.slice va vars.length vc,.slice qa n qc] 60))
 have HW0:Hid (∀W,Below (w.heap.size+1) W0 W→∀j,j<7→W.cell? ⟨w.heap.size,j,none⟩=(#[.bool fl,.string nm,.int .i64 pl,.slice ia ins.length ic,.slice oa outs.length oc,.slice va vars.length vc,.slice qa n qc]:Array Value)[j]?):=fun W h j hj=>by
  rw[h.cell (p:=⟨w.heap.size,j,none⟩) (by show w.heap.size<w.heap.size+1;omega),hW0,World.cell?_alloc_at _ _ _ _ rfl]
 have HS0:Hid (W0.heap.size=w.heap.size+1):=by rw[Hid,hW0];simp
 have HBW:Hid (Below w.heap.size w W0):=by rw[hW0];exact HB0.out
 have HEq:Hid _:=hW0
 clear hW0
 have HFalse0:Hid (q0=false→qb=false):=fun h=>by rw[HQ.out,h];rfl
 have HFalse1:Hid (q1=false→qb=false):=fun h=>by rw[HQ.out,h];simp
 have HFalse2:Hid (q2=false→qb=false):=fun h=>by rw[HQ.out,h];simp
 have HFalse3:Hid (q3=false→qb=false):=fun h=>by rw[HQ.out,h];simp
 go_enter Tryz.func41,Tryz.ntmps41
 go_wp2_with fail
 refine CN.mono ?_
 rintro x w2 ⟨rfl,hgr⟩
 have hb:Below _ _ w2:=hgr.below
 rw[←HEq.out] at hb
 have HX2:Hid (Below (w.heap.size+1) W0 w2):=by have:=HS0.out;rw[this] at hb;exact hb
 have HB2:Hid (Below w.heap.size w w2):=HBW.out.trans (HX2.out.mono (by omega))
 have x0:=HW0.out w2 HX2.out 0 (by omega)
 have x3:=HW0.out w2 HX2.out 3 (by omega)
 have x4:=HW0.out w2 HX2.out 4 (by omega)
 have x5:=HW0.out w2 HX2.out 5 (by omega)
 have x6:=HW0.out w2 HX2.out 6 (by omega)
 simp at x0 x3 x4 x5 x6
 have C1':=C1 w2 HB2.out
 clear hb hgr CN C1
 cases q0
 ·clear C1' C2 C3
  go_wp2_with fail
  go_ret
  exact⟨bool_ret (HFalse0.out (by first|rfl|trivial)).symm,HB2.out⟩
 ·go_wp2_with fail
  refine C1'.mono ?_
  rintro x w3 ⟨rfl,hb⟩
  have HB3:=hid (HB2.out.trans (hb.mono HB2.out.size))
  have HX3:Hid (Below (w.heap.size+1) W0 w3):=HX2.out.trans (hb.mono (by have h1:=HX2.out.size;have h2:=HS0.out;omega))
  clear x0 x3 x4 x5 x6
  have x0:=HW0.out w3 HX3.out 0 (by omega)
  have x4:=HW0.out w3 HX3.out 4 (by omega)
  have x5:=HW0.out w3 HX3.out 5 (by omega)
  have x6:=HW0.out w3 HX3.out 6 (by omega)
  simp at x0 x4 x5 x6
  have C2':=C2 w3 HB3.out
  clear hb C1' C2
  cases q1
  ·clear C2' C3
   go_wp2_with fail
   go_ret
   exact⟨bool_ret (HFalse1.out (by first|rfl|trivial)).symm,HB3.out⟩
  ·go_wp2_with fail
   refine C2'.mono ?_
   rintro x w4 ⟨rfl,hb⟩
   have HB4:=hid (HB3.out.trans (hb.mono HB3.out.size))
   have HX4:Hid (Below (w.heap.size+1) W0 w4):=HX3.out.trans (hb.mono (by have h1:=HX3.out.size;have h2:=HS0.out;omega))
   clear x0 x4 x5 x6
   have x5:=HW0.out w4 HX4.out 5 (by omega)
   have x6:=HW0.out w4 HX4.out 6 (by omega)
   simp at x5 x6
   have C3':=C3 w4 HB4.out
   clear hb C2' C3
   cases q2
   ·clear C3'
    go_wp2_with fail
    go_ret
    exact⟨bool_ret (HFalse2.out (by first|rfl|trivial)).symm,HB4.out⟩
   ·go_wp2_with fail
    refine C3'.mono ?_
    rintro x w5 ⟨rfl,hb⟩
    have HB5:=hid (HB4.out.trans (hb.mono HB4.out.size))
    have HX5:Hid (Below (w.heap.size+1) W0 w5):=HX4.out.trans (hb.mono (by have h1:=HX4.out.size;have h2:=HS0.out;omega))
    clear x5 x6
    have x6:=HW0.out w5 HX5.out 6 (by omega)
    simp at x6
    clear hb C3'
    cases q3
    ·go_wp2_with fail
     go_ret
     exact⟨bool_ret (HFalse3.out (by first|rfl|trivial)).symm,HB5.out⟩
    ·have HQ2:Hid (qb=eqs.all eqB):=by rw[Hid,HQ.out];rfl
     clear HQ HFalse0 HFalse1 HFalse2 HFalse3
     go_wp2_with fail
     go_loopw [2,3] (fun v i wr=>∃k:Nat,k≤n∧v=.bool false∧i=.int .i64 k∧Hid (Below (w.heap.size+1) W0 wr)∧wr.cell? ⟨w.heap.size,6,none⟩=some (.slice qa n qc)∧Hid ((eqs.take k).all eqB=true)) (fun _ i _=>n-(intOf i).toNat)
     case atStart=>exact⟨0,by omega,rfl,rfl,HX5,x6,by simp[Hid]⟩
     case round =>
      obtain⟨k,hk,rfl,rfl,HX,hx6,HT⟩:=hrel
      have HB:Hid (Below w.heap.size w wr):=HBW.out.trans (HX.out.mono (by omega))
      have HSz:Hid (w.heap.size+1≤wr.heap.size):=by have h1:=HX.out.size;have h2:=HS0.out;rw[Hid];omega
      by_cases hlt:k<n
      ·have hkl:k<eqs.length:=by rw[←HN.out];exact hlt
       obtain⟨b,o,rfl,hbl,hrow⟩:=HRow.out (by intro h;rw[h] at hkl;simp at hkl)
       have hcr:∀j,j<8→wr.cell? ⟨b,o+k*8+j,none⟩=eqs[k].cells[j]?:=fun j hj=>(HB.out.cell (p:=⟨b,o+k*8+j,none⟩) hbl).trans (hrow k hkl j hj)
       obtain⟨W1,hW1⟩:=nw (wr.alloc (.cells eqs[k].cells.toArray 64))
       have hbW1:Below wr.heap.size wr W1:=by rw[hW1];exact bal _
       have hsW1:W1.heap.size=wr.heap.size+1:=by rw[hW1];simp
       have CC:=HES.out k hkl W1 (HB.out.trans (hbW1.mono HB.out.size))
       have HNx:Hid _:=take_all hkl HT.out
       have HFalse:Hid (eqB eqs[k]=false→qb=false):=fun h=>by rw[HQ2.out];exact all_false hkl h
       obtain⟨hns,hgd⟩:=HEN.out k hkl
       have HBxE:Hid (∀W,Below (wr.heap.size+1) W1 W→∀j,j<8→W.cell? ⟨wr.heap.size,j,none⟩=eqs[k].cells[j]?):=fun W h j hj=>by
        rw[h.cell (p:=⟨wr.heap.size,j,none⟩) (by show wr.heap.size<wr.heap.size+1;omega),hW1]
        exact cell_alloc_eq rfl
       have HEB:Hid (eqB eqs[k]=((decide (1≤eqs[k].ns.length∧eqs[k].ns.length≤32)&&eqs[k].ns.all nameB)&&eqs[k].e.shape)):=rfl
       generalize eqB eqs[k]=qs at *
       generalize eqs[k]=y at *
       obtain⟨na1,nc1,ns1,pq1,e1⟩:=y
       simp only at CC HEB hns
       generalize e1.shape=qe at *
       obtain⟨kd1,pl1,nm1,it1,dn1,a1,cap1,l1⟩:=e1
       have c0:wr.cell? ⟨b,o+k*8,none⟩=some (.slice na1 ns1.length nc1):=hcr 0 (by omega)
       have c1:wr.cell? ⟨b,o+k*8+1,none⟩=some (.int .i64 pq1):=hcr 1 (by omega)
       have c2:wr.cell? ⟨b,o+k*8+2,none⟩=some (.int .u8 kd1):=hcr 2 (by omega)
       have c3:wr.cell? ⟨b,o+k*8+3,none⟩=some (.int .i64 pl1):=hcr 3 (by omega)
       have c4:wr.cell? ⟨b,o+k*8+4,none⟩=some (.string nm1):=hcr 4 (by omega)
       have c5:wr.cell? ⟨b,o+k*8+5,none⟩=some (.int .i64 it1):=hcr 5 (by omega)
       have c6:wr.cell? ⟨b,o+k*8+6,none⟩=some (.int .i64 dn1):=hcr 6 (by omega)
       have c7:wr.cell? ⟨b,o+k*8+7,none⟩=some (.slice a1 l1.length cap1):=hcr 7 (by omega)
       have HNS:=hid hns
       have HGS:=hid (hgd.1)
       obtain⟨m,hM⟩:=nw (ns1.length)
       have hm:m≤1048576:=by rw[hM];exact hgd.2.1
       have HM:=hid hM
       rw[←hM] at c0 HEB
       simp only[Ex.val,Ex.cells,Eqn.cells,List.toArray] at CC hW1 HBxE
       rw[←hM] at hW1
       simp only[←hM] at HBxE
       have HW1:Hid _:=hW1
       have HSW1:Hid _:=hsW1
       have HBW1:Hid _:=hbW1
       clear hcr hrow hns hgd hM hW1 hsW1 hbW1
       by_cases hmr:1≤m∧m≤32
       ·have HEB2:Hid (qs=(ns1.all nameB&&qe)):=by rw[Hid,HEB.out,decide_eq_true hmr];simp
        obtain⟨hm1,hm2⟩:=hmr
        go_wp2_with fail
        rw[←HW1.out]
        refine CC.mono ?_
        rintro x w6 ⟨rfl,hb⟩
        have hb':Below (wr.heap.size+1) W1 w6:=by have:=HSW1.out;rw[this] at hb;exact hb
        have HX6:=hid (HX.out.trans ((HBW1.out.trans (hb.mono HBW1.out.size)).mono HSz.out))
        have z0:=HBxE.out w6 hb' 0 (by omega)
        simp at z0
        have v6:w6.cell? ⟨w.heap.size,6,none⟩=some (.slice (some ⟨b,o,none⟩) n qc):=by have:=HW0.out w6 HX6.out 6 (by omega);simpa using this
        have HY6:=hid hb'
        clear hb hb' CC c0 c1 c2 c3 c4 c5 c6 c7 hx6
        cases qe
        ·go_wp2_with fail
         go_ret
         exact⟨bool_ret (HFalse.out (by rw[HEB2.out];simp)).symm,(HBW.out.trans (HX6.out.mono (by omega)))⟩
        ·have HEB3:Hid (qs=ns1.all nameB):=by rw[Hid,HEB2.out];simp
         clear HEB HEB2
         generalize hB1:wr.heap.size=B1 at *
         go_wp2_with fail
         go_loopw [2,5] (fun v i wq=>∃j:Nat,j≤m∧v=.bool false∧i=.int .i64 j∧Hid (Below (w.heap.size+1) W0 wq)∧wq.cell? ⟨B1,0,none⟩=some (.slice na1 m nc1)∧wq.cell? ⟨w.heap.size,6,none⟩=some (.slice (some ⟨b,o,none⟩) n qc)∧Hid ((ns1.take j).all nameB=true)) (fun _ i _=>m-(intOf i).toNat)
         case atStart=>exact⟨0,by omega,rfl,rfl,HX6,z0,v6,by simp[Hid]⟩
         case round =>
          obtain⟨j,hj,rfl,rfl,HXq,hz0,hv6,HTj⟩:=hrel
          have HBq:Hid (Below w.heap.size w wr):=HBW.out.trans (HXq.out.mono (by omega))
          by_cases hjl:j<m
          ·have hjk:j<ns1.length:=by rw[←HM.out];exact hjl
           obtain⟨b2,o2,rfl,hbl2,hrow2⟩:=HNS.out (by intro h;rw[h] at hjk;simp at hjk)
           have c0:wr.cell? ⟨b2,o2+j,none⟩=some (.string ns1[j]):=by
            have:=hrow2 j hjk 0 (by omega)
            rw[Nat.mul_one,Nat.add_zero] at this
            exact(HBq.out.cell (p:=⟨b2,o2+j,none⟩) hbl2).trans this
           have CC:=name_calls ns1[j] wr (HGS.out _ (List.getElem_mem hjk))
           have HNj:Hid _:=take_all hjk HTj.out
           have HFj:Hid (nameB ns1[j]=false→qs=false):=fun h=>by rw[HEB3.out];exact all_false hjk h
           generalize nameB ns1[j]=qn at *
           generalize ns1[j]=y at *
           clear hrow2
           go_wp2_with fail
           refine CC.mono ?_
           rintro x w7 ⟨rfl,hgr⟩
           have hb:=hgr.below
           have HX7:Hid (Below (w.heap.size+1) W0 w7):=HXq.out.trans (hb.mono (by have h1:=HXq.out.size;have h2:=HS0.out;omega))
           have hz7:w7.cell? ⟨B1,0,none⟩=some (.slice (some ⟨b2,o2,none⟩) m nc1):=(hb.cell (p:=⟨B1,0,none⟩) (World.block_lt_of_cell? wr ⟨B1,0,none⟩ hz0)).trans hz0
           have hv7:w7.cell? ⟨w.heap.size,6,none⟩=some (.slice (some ⟨b,o,none⟩) n qc):=(hb.cell (p:=⟨w.heap.size,6,none⟩) (World.block_lt_of_cell? wr ⟨w.heap.size,6,none⟩ hv6)).trans hv6
           clear hb hgr CC c0 hz0 hv6 HXq HBq
           cases qn
           ·go_wp2_with fail
            go_ret
            exact⟨bool_ret (HFalse.out (HFj.out (by first|rfl|trivial))).symm,HBW.out.trans (HX7.out.mono (by omega))⟩
           ·go_wp2_with fail
            go_roundw
            case rel=>exact⟨j+1,by omega,rfl,by go_num,HX7,hz7,hv7,HNj⟩
            case measure=>simp[intOf];omega
          ·obtain rfl:j=m:=by omega
           have HAj:Hid _:=all_true HM.out HTj.out
           go_wp2_with fail
           go_roundw
           case rel=>exact⟨k+1,by omega,rfl,by go_num,HXq,hv6,by rw[Hid,HNx.out,HEB3.out];exact HAj.out⟩
           case measure=>simp[intOf];omega
       ·have HEB2:Hid (qs=false):=by rw[Hid,HEB.out,decide_eq_false hmr];simp
        go_wp2_with fail
        all_goals first
         | (exfalso;omega)
         | (rw[←HW1.out];go_ret;exact⟨bool_ret (HFalse.out HEB2.out).symm,HB.out.trans (HBW1.out.mono HB.out.size)⟩)
         | (go_ret;exact⟨bool_ret (HFalse.out HEB2.out).symm,by have:=HB.out.trans (HBW1.out.mono HB.out.size);rw[HW1.out] at this;exact this⟩)
      ·obtain rfl:k=n:=by omega
       have HAll:Hid _:=all_true HN.out HT.out
       go_wp2_with fail
       go_ret
       exact⟨bool_ret (by rw[HQ2.out,HAll.out]),HB.out⟩
theorem mayOf_big{l:List Nd}(h:(decide (l.length≤64)&&l.all fewB)=false):mayOf l=42:=by rw[mayOf,if_pos h]
theorem mayOf_else{l:List Nd}(h1:l.length≤64)(h2:l.all fewB=true):mayOf l=if l.all ndB=false then 40 else if 64<ndDeep l then 41 else if 4096<ndSizes l then 42 else 0:=by
 rw[mayOf,if_neg]
 rw[h2,decide_eq_true h1]
 simp
set_option maxRecDepth 100000 in
set_option maxHeartbeats 12800000 in
theorem may_ref(l:List Nd)(a:Option Addr)(cap:Nat)(hg:Goods l)(w:World)(hl:Lie w a l):Calls Tryz.prog 23 #[.agg #[.slice a l.length cap]] w fun x w'=>x=.returned (.int .i64 (mayOf l))∧Below w.heap.size w w':=by
 have CN:∀(k:Nat)(h:k<l.length)(W W':World),Below w.heap.size w W→Below W.heap.size W W'→Calls Tryz.prog 41 #[l[k].val] W' fun x w'=>x=.returned (.bool (ndB l[k]))∧Below W'.heap.size W' w':=fun k h W W' hb hb' =>
  refNode_calls _ (hg.1 _ (List.getElem_mem h)) W' (Nd.lies_below (hl.2 _ (List.getElem_mem h)) (hb.trans (hb'.mono hb.size)))
 have HBig:Hid ((decide (l.length≤64)&&l.all fewB)=false→mayOf l=42):=mayOf_big
 have HElse:Hid (l.length≤64→l.all fewB=true→mayOf l=if l.all ndB=false then 40 else if 64<ndDeep l then 41 else if 4096<ndSizes l then 42 else 0):=mayOf_else
 have hdl:=ndDeep_le l
 have HSum:=hid (hg.2.2)
 have HG:=hid (hg.1)
 have HL:=hid hl
 obtain⟨n,hN⟩:=nw (l.length)
 have hn:n≤1048576:=by rw[hN];exact hg.2.1
 have HN:=hid hN
 rw[←hN] at HBig HElse ⊢
 generalize mayOf l=mq at *
 have HCN:Hid _:=CN
 obtain⟨W0,hW0⟩:=nw (w.alloc (.cells #[.slice a n cap] 24))
 have HB0:Hid (Below w.heap.size w W0):=by rw[hW0];exact bal _
 have HS0:Hid (W0.heap.size=w.heap.size+1):=by rw[Hid,hW0];simp
 have HX0:Hid (W0.cell? ⟨w.heap.size,0,none⟩=some (.slice a n cap)):=by rw[Hid,hW0,World.cell?_alloc_at _ _ _ _ rfl];rfl
 have HW0:Hid _:=hW0
 clear hN hg hl CN hW0 hdl
 by_cases h64:n≤64
 ·go_enter Tryz.func23,Tryz.ntmps23
  go_wp2_with fail
  rw[←HW0.out]
  go_loopw [2,3,4,5,6] (fun v s d q i wr=>∃k:Nat,k≤n∧v=.int .i64 0∧i=.int .i64 k∧s=.int .i64 (ndSizes (l.take k):Nat)∧d=.int .i64 (ndDeep (l.take k):Nat)∧q=.bool ((l.take k).all ndB)∧Hid ((l.take k).all fewB=true)∧Hid (Below (w.heap.size+1) W0 wr)∧wr.cell? ⟨w.heap.size,0,none⟩=some (.slice a n cap)) (fun _ _ _ _ i _=>n-(intOf i).toNat)
  case atStart=>exact⟨0,by omega,rfl,rfl,by simp[ndSizes],by simp[ndDeep],by simp,by simp[Hid],Below.refl _ _,HX0.out⟩
  case round =>
   obtain⟨k,hk,rfl,rfl,rfl,rfl,rfl,HF,HX,hx0⟩:=hrel
   have HB:Hid (Below w.heap.size w wr):=HB0.out.trans (HX.out.mono (by omega))
   have HSz:Hid (w.heap.size+1≤wr.heap.size):=by have h1:=HX.out.size;have h2:=HS0.out;rw[Hid];omega
   by_cases hlt:k<n
   ·have hkl:k<l.length:=by rw[←HN.out];exact hlt
    obtain⟨b,o,rfl,hbl,hrow⟩:=HL.out.1 (by intro h;rw[h] at hkl;simp at hkl)
    have hcr:∀j,j<7→wr.cell? ⟨b,o+k*7+j,none⟩=l[k].cells[j]?:=fun j hj=>(HB.out.cell (p:=⟨b,o+k*7+j,none⟩) hbl).trans (hrow k hkl j hj)
    have hgk:=HG.out _ (List.getElem_mem hkl)
    have hlk:=HL.out.2 _ (List.getElem_mem hkl)
    obtain⟨W1,hW1⟩:=nw (wr.alloc (.cells l[k].cells.toArray 60))
    have hbW1:Below wr.heap.size wr W1:=by rw[hW1];exact bal _
    have hsW1:W1.heap.size=wr.heap.size+1:=by rw[hW1];simp
    have hcW1:∀j,j<7→W1.cell? ⟨wr.heap.size,j,none⟩=l[k].cells[j]?:=fun j hj=>by rw[hW1];exact cell_alloc_eq rfl
    have CC:=HCN.out k hkl wr W1 HB.out hbW1
    have HNx:Hid _:=ndSizes_at l k hkl
    have HDx:Hid _:=ndDeep_at l k hkl
    have HFx:Hid _:=take_all hkl HF.out
    have HQx:Hid ((l.take (k+1)).all ndB=((l.take k).all ndB&&ndB l[k])):=by
     rw[Hid,List.take_succ_eq_append_getElem hkl,List.all_append]
     simp
    have HFalse:Hid (fewB l[k]=false→mq=42):=fun h=>HBig.out (by rw[all_false hkl h];simp)
    have HFw:Hid (fewB l[k]=decide (l[k].ins.length≤32∧l[k].outs.length≤32∧l[k].vars.length≤32∧l[k].eqs.length≤128)):=rfl
    have HBd:Hid (ndSizes (l.take k)+eqSizes l[k].eqs≤1048576):=by
     have h1:=ndSizes_take l (k+1)
     rw[ndSizes_at l k hkl] at h1
     exact Nat.le_trans h1 HSum.out
    have hdl:=ndDeep_le (l.take k)
    have HQs:=hid (hgk.2.2.2.2.2.2.2.2)
    have HQL:=hid (hlk.2.2.2)
    obtain⟨-,g1,g2,g3,g4,-⟩:=hgk
    clear hlk
    generalize ndB l[k]=qs at *
    generalize fewB l[k]=qf at *
    generalize l[k]=y at *
    obtain⟨fl,nm,pl,ia,ic,ins,oa,oc,outs,va,vc,vars,qa,qc,eqs⟩:=y
    have c0:wr.cell? ⟨b,o+k*7,none⟩=some (.bool fl):=hcr 0 (by omega)
    have c1:wr.cell? ⟨b,o+k*7+1,none⟩=some (.string nm):=hcr 1 (by omega)
    have c2:wr.cell? ⟨b,o+k*7+2,none⟩=some (.int .i64 pl):=hcr 2 (by omega)
    have c3:wr.cell? ⟨b,o+k*7+3,none⟩=some (.slice ia ins.length ic):=hcr 3 (by omega)
    have c4:wr.cell? ⟨b,o+k*7+4,none⟩=some (.slice oa outs.length oc):=hcr 4 (by omega)
    have c5:wr.cell? ⟨b,o+k*7+5,none⟩=some (.slice va vars.length vc):=hcr 5 (by omega)
    have c6:wr.cell? ⟨b,o+k*7+6,none⟩=some (.slice qa eqs.length qc):=hcr 6 (by omega)
    have e6:W1.cell? ⟨wr.heap.size,6,none⟩=some (.slice qa eqs.length qc):=hcW1 6 (by omega)
    simp only at HNx HDx HFw HBd HQs HQL g1 g2 g3 g4
    obtain⟨m,hM⟩:=nw (eqs.length)
    have HM:=hid hM
    simp only[Nd.val,Nd.cells,List.toArray] at CC hW1
    simp only[←hM] at CC hW1 c6 e6 g4 HFw
    generalize ins.length=n1 at *
    generalize outs.length=n2 at *
    generalize vars.length=n3 at *
    generalize ndSizes (l.take k)=S at *
    generalize ndDeep (l.take k)=D at *
    generalize (l.take k).all ndB=qk at *
    have HW1:Hid _:=hW1
    have HSW1:Hid _:=hsW1
    have HBW1:Hid _:=hbW1
    have HX1:=hid (HX.out.trans (hbW1.mono HSz.out))
    have hSb:S≤1048576:=by have:=HBd.out;omega
    clear hcr hrow hM hW1 hsW1 hbW1 hcW1
    by_cases hf:n1≤32∧n2≤32∧n3≤32∧m≤128
    ·have HT2:Hid (qf=true):=by rw[Hid,HFw.out,decide_eq_true hf]
     obtain⟨f1,f2,f3,f4⟩:=hf
     cases qk
     ·clear CC
      have v0:W1.cell? ⟨w.heap.size,0,none⟩=some (.slice (some ⟨b,o,none⟩) n cap):=(HBW1.out.cell (p:=⟨w.heap.size,0,none⟩) (World.block_lt_of_cell? _ ⟨w.heap.size,0,none⟩ hx0)).trans hx0
      generalize hB1:wr.heap.size=B1 at *
      go_wp2_with fail
      rw[←HW1.out]
      go_loopw [3,4,8] (fun s d i wq=>∃j:Nat,j≤m∧i=.int .i64 j∧s=.int .i64 (S+eqSizes (eqs.take j):Nat)∧d=.int .i64 (max D (eqDeep (eqs.take j)):Nat)∧Hid (Below (w.heap.size+1) W0 wq)∧wq.cell? ⟨w.heap.size,0,none⟩=some (.slice (some ⟨b,o,none⟩) n cap)∧wq.cell? ⟨B1,6,none⟩=some (.slice qa m qc)) (fun _ _ i _=>m-(intOf i).toNat)
      case atStart=>exact⟨0,by omega,rfl,by simp[eqSizes],by simp[eqDeep],HX1,v0,e6⟩
      case round =>
       obtain⟨j,hj,rfl,rfl,rfl,HXq,hv0,he6⟩:=hrel
       have HBq:Hid (Below w.heap.size w wr):=HB0.out.trans (HXq.out.mono (by omega))
       by_cases hjl:j<m
       ·have hjk:j<eqs.length:=by rw[←HM.out];exact hjl
        obtain⟨b',o',rfl,hbl',hrow'⟩:=HQL.out.1 (by intro h;rw[h] at hjk;simp at hjk)
        have HCx:Hid (∀W,Below w.heap.size w W→∀i,i<8→W.cell? ⟨b',o'+j*8+i,none⟩=eqs[j].cells[i]?):=fun W h i hi=>(h.cell (p:=⟨b',o'+j*8+i,none⟩) hbl').trans (hrow' j hjk i hi)
        have HGq:=HQs.out _ (List.getElem_mem hjk)
        have HLq:=HQL.out.2 _ (List.getElem_mem hjk)
        have hsb1:=size_bulk eqs[j].e
        have C1:=size_calls eqs[j].e.size eqs[j].e (Nat.le_refl _) (Nat.le_trans hsb1 HGq.2.2.2) wr (lies_below HBq.out _ HLq.2)
        have C2:=fun W (h:Below w.heap.size w W)=>depth_calls eqs[j].e.size eqs[j].e (Nat.le_refl _) (Nat.le_trans hsb1 HGq.2.2.2) W (lies_below h _ HLq.2)
        have HSx:Hid _:=eqSizes_at eqs j hjk
        have HEx:Hid _:=eqDeep_at eqs j hjk
        have hsb:S+(eqSizes (eqs.take j)+eqs[j].e.size)≤1048576:=by
         have h1:=eqSizes_take eqs (j+1)
         rw[eqSizes_at eqs j hjk] at h1
         have:=HBd.out
         omega
        have hdb:=eqDeep_le (eqs.take j)
        have hde:=depth_le eqs[j].e
        clear HGq HLq hrow' hsb1
        generalize eqSizes (eqs.take j)=S2 at *
        generalize eqDeep (eqs.take j)=D2 at *
        generalize eqs[j]=y at *
        obtain⟨na1,nc1,ns1,pq1,e1⟩:=y
        simp only at HSx HEx hsb hde C1 C2
        generalize e1.size=z1 at *
        generalize e1.depth=z2 at *
        obtain⟨kd1,pl1,nm1,it1,dn1,a1,cap1,l1⟩:=e1
        have d2:wr.cell? ⟨b',o'+j*8+2,none⟩=some (.int .u8 kd1):=HCx.out wr HBq.out 2 (by omega)
        have d3:wr.cell? ⟨b',o'+j*8+2+1,none⟩=some (.int .i64 pl1):=HCx.out wr HBq.out 3 (by omega)
        have d4:wr.cell? ⟨b',o'+j*8+2+2,none⟩=some (.string nm1):=HCx.out wr HBq.out 4 (by omega)
        have d5:wr.cell? ⟨b',o'+j*8+2+3,none⟩=some (.int .i64 it1):=HCx.out wr HBq.out 5 (by omega)
        have d6:wr.cell? ⟨b',o'+j*8+2+4,none⟩=some (.int .i64 dn1):=HCx.out wr HBq.out 6 (by omega)
        have d7:wr.cell? ⟨b',o'+j*8+2+5,none⟩=some (.slice a1 l1.length cap1):=HCx.out wr HBq.out 7 (by omega)
        simp only[Ex.val,Ex.cells,List.toArray] at C1 C2
        have HC2:Hid _:=C2
        clear C2
        go_wp2_with fail
        refine C1.mono ?_
        rintro x w7 ⟨rfl,hb7⟩
        have HX7:Hid (Below (w.heap.size+1) W0 w7):=HXq.out.trans (hb7.mono (by have h1:=HXq.out.size;have h2:=HS0.out;omega))
        have HB7:=hid (HBq.out.trans (hb7.mono HBq.out.size))
        have hv7:w7.cell? ⟨w.heap.size,0,none⟩=some (.slice (some ⟨b,o,none⟩) n cap):=(hb7.cell (p:=⟨w.heap.size,0,none⟩) (World.block_lt_of_cell? wr ⟨w.heap.size,0,none⟩ hv0)).trans hv0
        have he7:w7.cell? ⟨B1,6,none⟩=some (.slice (some ⟨b',o',none⟩) m qc):=(hb7.cell (p:=⟨B1,6,none⟩) (World.block_lt_of_cell? wr ⟨B1,6,none⟩ he6)).trans he6
        clear C1 hb7 d2 d3 d4 d5 d6 d7 hv0 he6 HXq HBq
        have d2:w7.cell? ⟨b',o'+j*8+2,none⟩=some (.int .u8 kd1):=HCx.out w7 HB7.out 2 (by omega)
        have d3:w7.cell? ⟨b',o'+j*8+2+1,none⟩=some (.int .i64 pl1):=HCx.out w7 HB7.out 3 (by omega)
        have d4:w7.cell? ⟨b',o'+j*8+2+2,none⟩=some (.string nm1):=HCx.out w7 HB7.out 4 (by omega)
        have d5:w7.cell? ⟨b',o'+j*8+2+3,none⟩=some (.int .i64 it1):=HCx.out w7 HB7.out 5 (by omega)
        have d6:w7.cell? ⟨b',o'+j*8+2+4,none⟩=some (.int .i64 dn1):=HCx.out w7 HB7.out 6 (by omega)
        have d7:w7.cell? ⟨b',o'+j*8+2+5,none⟩=some (.slice a1 l1.length cap1):=HCx.out w7 HB7.out 7 (by omega)
        go_wp2_with fail
        refine(HC2.out w7 HB7.out).mono ?_
        rintro x w8 ⟨rfl,hb8⟩
        have HX8:Hid (Below (w.heap.size+1) W0 w8):=HX7.out.trans (hb8.mono (by have h1:=HX7.out.size;have h2:=HS0.out;omega))
        have hv8:w8.cell? ⟨w.heap.size,0,none⟩=some (.slice (some ⟨b,o,none⟩) n cap):=(hb8.cell (p:=⟨w.heap.size,0,none⟩) (World.block_lt_of_cell? w7 ⟨w.heap.size,0,none⟩ hv7)).trans hv7
        have he8:w8.cell? ⟨B1,6,none⟩=some (.slice (some ⟨b',o',none⟩) m qc):=(hb8.cell (p:=⟨B1,6,none⟩) (World.block_lt_of_cell? w7 ⟨B1,6,none⟩ he7)).trans he7
        clear hb8 d2 d3 d4 d5 d6 d7 hv7 he7 HX7 HB7
        go_wp2_with fail
        all_goals
         (go_roundw
          case rel=>exact⟨j+1,by omega,by go_num,by rw[HSx.out];exact congrArg (Value.int .i64) (by omega),by rw[HEx.out];exact congrArg (Value.int .i64) (by omega),HX8,hv8,he8⟩
          case measure=>simp[intOf];omega)
       ·obtain rfl:j=m:=by omega
        have HT4:Hid (eqs.take j=eqs):=by rw[Hid,HM.out,List.take_length]
        rw[HT4.out]
        go_wp2_with fail
        all_goals
         (go_roundw
          case rel=>exact⟨k+1,by omega,rfl,by go_num,by rw[HNx.out],by rw[HDx.out],by rw[HQx.out];rfl,by rw[Hid,HFx.out];exact HT2.out,HXq,hv0⟩
          case measure=>simp[intOf];omega)
     ·go_wp2_with fail
      rw[←HW1.out]
      refine CC.mono ?_
      rintro x w6 ⟨rfl,hb6⟩
      have v0:w6.cell? ⟨w.heap.size,0,none⟩=some (.slice (some ⟨b,o,none⟩) n cap):=((HBW1.out.trans (hb6.mono HBW1.out.size)).cell (p:=⟨w.heap.size,0,none⟩) (World.block_lt_of_cell? _ ⟨w.heap.size,0,none⟩ hx0)).trans hx0
      have e6':w6.cell? ⟨wr.heap.size,6,none⟩=some (.slice qa m qc):=(hb6.cell (p:=⟨wr.heap.size,6,none⟩) (World.block_lt_of_cell? _ ⟨wr.heap.size,6,none⟩ e6)).trans e6
      have HX6:Hid (Below (w.heap.size+1) W0 w6):=HX1.out.trans (hb6.mono (by have h1:=HX1.out.size;have h2:=HS0.out;omega))
      clear hb6 CC e6 c0 c1 c2 c3 c4 c5 c6
      generalize hB1:wr.heap.size=B1 at *
      go_wp2_with fail
      go_loopw [3,4,8] (fun s d i wq=>∃j:Nat,j≤m∧i=.int .i64 j∧s=.int .i64 (S+eqSizes (eqs.take j):Nat)∧d=.int .i64 (max D (eqDeep (eqs.take j)):Nat)∧Hid (Below (w.heap.size+1) W0 wq)∧wq.cell? ⟨w.heap.size,0,none⟩=some (.slice (some ⟨b,o,none⟩) n cap)∧wq.cell? ⟨B1,6,none⟩=some (.slice qa m qc)) (fun _ _ i _=>m-(intOf i).toNat)
      case atStart=>exact⟨0,by omega,rfl,by simp[eqSizes],by simp[eqDeep],HX6,v0,e6'⟩
      case round =>
       obtain⟨j,hj,rfl,rfl,rfl,HXq,hv0,he6⟩:=hrel
       have HBq:Hid (Below w.heap.size w wr):=HB0.out.trans (HXq.out.mono (by omega))
       by_cases hjl:j<m
       ·have hjk:j<eqs.length:=by rw[←HM.out];exact hjl
        obtain⟨b',o',rfl,hbl',hrow'⟩:=HQL.out.1 (by intro h;rw[h] at hjk;simp at hjk)
        have HCx:Hid (∀W,Below w.heap.size w W→∀i,i<8→W.cell? ⟨b',o'+j*8+i,none⟩=eqs[j].cells[i]?):=fun W h i hi=>(h.cell (p:=⟨b',o'+j*8+i,none⟩) hbl').trans (hrow' j hjk i hi)
        have HGq:=HQs.out _ (List.getElem_mem hjk)
        have HLq:=HQL.out.2 _ (List.getElem_mem hjk)
        have hsb1:=size_bulk eqs[j].e
        have C1:=size_calls eqs[j].e.size eqs[j].e (Nat.le_refl _) (Nat.le_trans hsb1 HGq.2.2.2) wr (lies_below HBq.out _ HLq.2)
        have C2:=fun W (h:Below w.heap.size w W)=>depth_calls eqs[j].e.size eqs[j].e (Nat.le_refl _) (Nat.le_trans hsb1 HGq.2.2.2) W (lies_below h _ HLq.2)
        have HSx:Hid _:=eqSizes_at eqs j hjk
        have HEx:Hid _:=eqDeep_at eqs j hjk
        have hsb:S+(eqSizes (eqs.take j)+eqs[j].e.size)≤1048576:=by
         have h1:=eqSizes_take eqs (j+1)
         rw[eqSizes_at eqs j hjk] at h1
         have:=HBd.out
         omega
        have hdb:=eqDeep_le (eqs.take j)
        have hde:=depth_le eqs[j].e
        clear HGq HLq hrow' hsb1
        generalize eqSizes (eqs.take j)=S2 at *
        generalize eqDeep (eqs.take j)=D2 at *
        generalize eqs[j]=y at *
        obtain⟨na1,nc1,ns1,pq1,e1⟩:=y
        simp only at HSx HEx hsb hde C1 C2
        generalize e1.size=z1 at *
        generalize e1.depth=z2 at *
        obtain⟨kd1,pl1,nm1,it1,dn1,a1,cap1,l1⟩:=e1
        have d2:wr.cell? ⟨b',o'+j*8+2,none⟩=some (.int .u8 kd1):=HCx.out wr HBq.out 2 (by omega)
        have d3:wr.cell? ⟨b',o'+j*8+2+1,none⟩=some (.int .i64 pl1):=HCx.out wr HBq.out 3 (by omega)
        have d4:wr.cell? ⟨b',o'+j*8+2+2,none⟩=some (.string nm1):=HCx.out wr HBq.out 4 (by omega)
        have d5:wr.cell? ⟨b',o'+j*8+2+3,none⟩=some (.int .i64 it1):=HCx.out wr HBq.out 5 (by omega)
        have d6:wr.cell? ⟨b',o'+j*8+2+4,none⟩=some (.int .i64 dn1):=HCx.out wr HBq.out 6 (by omega)
        have d7:wr.cell? ⟨b',o'+j*8+2+5,none⟩=some (.slice a1 l1.length cap1):=HCx.out wr HBq.out 7 (by omega)
        simp only[Ex.val,Ex.cells,List.toArray] at C1 C2
        have HC2:Hid _:=C2
        clear C2
        go_wp2_with fail
        refine C1.mono ?_
        rintro x w7 ⟨rfl,hb7⟩
        have HX7:Hid (Below (w.heap.size+1) W0 w7):=HXq.out.trans (hb7.mono (by have h1:=HXq.out.size;have h2:=HS0.out;omega))
        have HB7:=hid (HBq.out.trans (hb7.mono HBq.out.size))
        have hv7:w7.cell? ⟨w.heap.size,0,none⟩=some (.slice (some ⟨b,o,none⟩) n cap):=(hb7.cell (p:=⟨w.heap.size,0,none⟩) (World.block_lt_of_cell? wr ⟨w.heap.size,0,none⟩ hv0)).trans hv0
        have he7:w7.cell? ⟨B1,6,none⟩=some (.slice (some ⟨b',o',none⟩) m qc):=(hb7.cell (p:=⟨B1,6,none⟩) (World.block_lt_of_cell? wr ⟨B1,6,none⟩ he6)).trans he6
        clear C1 hb7 d2 d3 d4 d5 d6 d7 hv0 he6 HXq HBq
        have d2:w7.cell? ⟨b',o'+j*8+2,none⟩=some (.int .u8 kd1):=HCx.out w7 HB7.out 2 (by omega)
        have d3:w7.cell? ⟨b',o'+j*8+2+1,none⟩=some (.int .i64 pl1):=HCx.out w7 HB7.out 3 (by omega)
        have d4:w7.cell? ⟨b',o'+j*8+2+2,none⟩=some (.string nm1):=HCx.out w7 HB7.out 4 (by omega)
        have d5:w7.cell? ⟨b',o'+j*8+2+3,none⟩=some (.int .i64 it1):=HCx.out w7 HB7.out 5 (by omega)
        have d6:w7.cell? ⟨b',o'+j*8+2+4,none⟩=some (.int .i64 dn1):=HCx.out w7 HB7.out 6 (by omega)
        have d7:w7.cell? ⟨b',o'+j*8+2+5,none⟩=some (.slice a1 l1.length cap1):=HCx.out w7 HB7.out 7 (by omega)
        go_wp2_with fail
        refine(HC2.out w7 HB7.out).mono ?_
        rintro x w8 ⟨rfl,hb8⟩
        have HX8:Hid (Below (w.heap.size+1) W0 w8):=HX7.out.trans (hb8.mono (by have h1:=HX7.out.size;have h2:=HS0.out;omega))
        have hv8:w8.cell? ⟨w.heap.size,0,none⟩=some (.slice (some ⟨b,o,none⟩) n cap):=(hb8.cell (p:=⟨w.heap.size,0,none⟩) (World.block_lt_of_cell? w7 ⟨w.heap.size,0,none⟩ hv7)).trans hv7
        have he8:w8.cell? ⟨B1,6,none⟩=some (.slice (some ⟨b',o',none⟩) m qc):=(hb8.cell (p:=⟨B1,6,none⟩) (World.block_lt_of_cell? w7 ⟨B1,6,none⟩ he7)).trans he7
        clear hb8 d2 d3 d4 d5 d6 d7 hv7 he7 HX7 HB7
        go_wp2_with fail
        all_goals
         (go_roundw
          case rel=>exact⟨j+1,by omega,by go_num,by rw[HSx.out];exact congrArg (Value.int .i64) (by omega),by rw[HEx.out];exact congrArg (Value.int .i64) (by omega),HX8,hv8,he8⟩
          case measure=>simp[intOf];omega)
       ·obtain rfl:j=m:=by omega
        have HT4:Hid (eqs.take j=eqs):=by rw[Hid,HM.out,List.take_length]
        rw[HT4.out]
        go_wp2_with fail
        all_goals
         (go_roundw
          case rel=>exact⟨k+1,by omega,rfl,by go_num,by rw[HNx.out],by rw[HDx.out],by rw[HQx.out];rfl,by rw[Hid,HFx.out];exact HT2.out,HXq,hv0⟩
          case measure=>simp[intOf];omega)
    ·have HT2:Hid (qf=false):=by rw[Hid,HFw.out,decide_eq_false hf]
     go_wp2_with fail
     all_goals first
      | (exfalso;omega)
      | (go_ret;exact⟨ret_nat (HFalse.out HT2.out).symm,by have:=HB.out.trans (HBW1.out.mono HB.out.size);rw[HW1.out] at this;exact this⟩)
   ·obtain rfl:k=n:=by omega
    have HTk:Hid (l.take k=l):=by rw[Hid,HN.out,List.take_length]
    have HFa:=hid (all_true HN.out HF.out)
    have HM2:Hid _:=HElse.out h64 HFa.out
    rw[HTk.out]
    have hdl:=ndDeep_le l
    have hsl:=HSum.out
    generalize ndSizes l=S at *
    generalize ndDeep l=D at *
    generalize l.all ndB=qk at *
    cases qk
    ·go_wp2_with fail
     go_ret
     exact⟨ret_nat (by rw[HM2.out];rfl),HB.out⟩
    ·by_cases h1:64<D
     ·go_wp2_with fail
      go_ret
      exact⟨ret_nat (by rw[HM2.out];simp[h1]),HB.out⟩
     ·by_cases h2:4096<S
      ·go_wp2_with fail
       go_ret
       exact⟨ret_nat (by rw[HM2.out];simp[h1,h2]),HB.out⟩
      ·go_wp2_with fail
       go_ret
       exact⟨ret_nat (by rw[HM2.out];simp[h1,h2]),HB.out⟩
 ·go_enter Tryz.func23,Tryz.ntmps23
  go_wp2_with fail
  rw[←HW0.out]
  go_ret
  exact⟨ret_nat (HBig.out (by rw[decide_eq_false h64];rfl)).symm,HB0.out⟩
end Go.Proofs.YthbgnpkgglbhjaaGreatDoor
