import Derived.Test.YthbgnpkgglbhjaaGreatDoorTreeWalks
import Derived.Laws.Cover1
namespace Go.Proofs.YthbgnpkgglbhjaaGreatDoor
open Go.RowKit
open Ex.size Ex.depth Ex.lies Ex.bulk Ex.good
def pmNums (p : Pm) : Bool := (p.ty == 1 || p.ty == 2) && decide (0 ≤ p.du) && (if p.rt then decide (1 ≤ p.pd) && decide (0 ≤ p.st) else p.pd == 0 && p.st == 0)
def pmB (p : Pm) : Bool := nameB p.nm && pmNums p
def pmsB (rate due : Bool) (p : Pm) : Bool := pmB p && !(p.rt && !rate) && !(decide (0 < p.du) && !due)
set_option maxRecDepth 100000 in
set_option maxHeartbeats 3200000 in
theorem paramMay_calls (p : Pm) (hs : p.nm.size ≤ 1048576) (w : World) : Calls Tryz.prog 133 #[p.val] w fun x w' => x = .returned (.bool (pmB p)) ∧ Below w.heap.size w w' := by
  have CN := lexName_calls p.nm (w.alloc (.cells p.cells.toArray 62)) hs
  have HP : Hid (pmB p = (nameB p.nm && pmNums p)) := rfl
  have HNm : Hid (pmNums p = ((p.ty == 1 || p.ty == 2) && decide (0 ≤ p.du) && (if p.rt then decide (1 ≤ p.pd) && decide (0 ≤ p.st) else p.pd == 0 && p.st == 0))) := rfl
  generalize pmB p = pb at *
  generalize pmNums p = pn at *
  generalize nameB p.nm = nb at *
  obtain ⟨nm, ty, pl, rt, pd, st, du⟩ := p
  simp only [Pm.val, Pm.cells, List.toArray] at *
  cases nb
  · go_enter Tryz.func133, Tryz.ntmps133
    go_wp2_with fail
    refine CN.mono ?_
    rintro x w2 ⟨rfl, hb⟩
    have HB : Hid (Below w.heap.size w w2) := ((Below.refl w.heap.size w).alloc (Nat.le_refl _) _).trans (hb.mono (by simp))
    clear hb CN
    go_wp2_with fail
    go_ret
    exact ⟨bool_ret (by rw [HP.out]; rfl), HB.out⟩
  · go_enter Tryz.func133, Tryz.ntmps133
    go_wp2_with fail
    refine CN.mono ?_
    rintro x w2 ⟨rfl, hb⟩
    have HB : Hid (Below w.heap.size w w2) := ((Below.refl w.heap.size w).alloc (Nat.le_refl _) _).trans (hb.mono (by simp))
    have e1 : w2.cell? ⟨w.heap.size, 1, none⟩ = some (.int .u8 ty) := (hb.cell (p := ⟨w.heap.size, 1, none⟩) (by simp)).trans (by simp)
    have e3 : w2.cell? ⟨w.heap.size, 3, none⟩ = some (.bool rt) := (hb.cell (p := ⟨w.heap.size, 3, none⟩) (by simp)).trans (by simp)
    have e4 : w2.cell? ⟨w.heap.size, 4, none⟩ = some (.int .i64 pd) := (hb.cell (p := ⟨w.heap.size, 4, none⟩) (by simp)).trans (by simp)
    have e5 : w2.cell? ⟨w.heap.size, 5, none⟩ = some (.int .i64 st) := (hb.cell (p := ⟨w.heap.size, 5, none⟩) (by simp)).trans (by simp)
    have e6 : w2.cell? ⟨w.heap.size, 6, none⟩ = some (.int .i64 du) := (hb.cell (p := ⟨w.heap.size, 6, none⟩) (by simp)).trans (by simp)
    clear hb CN
    cases rt
    · go_wp2
      all_goals go_ret
      all_goals exact ⟨bool_ret (by rw [HP.out, HNm.out, Bool.eq_iff_iff]; simp_all <;> omega), HB.out⟩
    · go_wp2
      all_goals go_ret
      all_goals exact ⟨bool_ret (by rw [HP.out, HNm.out, Bool.eq_iff_iff]; simp_all <;> omega), HB.out⟩
set_option maxRecDepth 100000 in
set_option maxHeartbeats 6400000 in
theorem paramsMay_calls (l : List Pm) (a : Option Addr) (cap : Nat) (rate due : Bool) (hg : ∀ p ∈ l, p.nm.size ≤ 1048576) (hn : l.length ≤ 1048576) (w : World) (hl : rowIn Pm.cells 7 w a l) :
    Calls Tryz.prog 120 #[.slice a l.length cap, .bool rate, .bool due] w fun x w' => x = .returned (.bool (l.all (pmsB rate due))) ∧ Below w.heap.size w w' := by
  obtain ⟨n, hN⟩ : ∃ n, n = l.length := ⟨_, rfl⟩
  rw [← hN] at hn ⊢
  have HN : Hid (n = l.length) := hN
  have HG : Hid _ := hg
  have HL : Hid (rowIn Pm.cells 7 w a l) := hl
  have HE : Hid (∀ k, k ≤ n → (l.take k).all (pmsB rate due) = true → k = n → l.all (pmsB rate due) = true) := fun k _ h e => by rw [e, hN, List.take_length] at h; exact h
  generalize hq : l.all (pmsB rate due) = q at *
  have HQ : Hid (l.all (pmsB rate due) = q) := hq
  clear hN hg hl hq
  go_enter Tryz.func120, Tryz.ntmps120
  go_wp2_with fail
  go_loopw [6, 11] (fun v i wr => ∃ k : Nat, k ≤ n ∧ v = .bool false ∧ i = .int .i64 k ∧ Hid (Below w.heap.size w wr) ∧ Hid ((l.take k).all (pmsB rate due) = true)) (fun _ i _ => n - (intOf i).toNat)
  case atStart => exact ⟨0, by omega, rfl, rfl, Below.refl _ _, by simp [Hid]⟩
  case round =>
    obtain ⟨k, hk, rfl, rfl, HB, HT⟩ := hrel
    by_cases hlt : k < n
    · have hkl : k < l.length := by rw [← HN.out]; exact hlt
      obtain ⟨b, o, rfl, hbl, hrow⟩ := HL.out (by intro h; rw [h] at hkl; simp at hkl)
      have hcr : ∀ j, j < 7 → wr.cell? ⟨b, o + k * 7 + j, none⟩ = l[k].cells[j]? := fun j hj => (HB.out.cell (p := ⟨b, o + k * 7 + j, none⟩) hbl).trans (hrow k hkl j hj)
      have CC := paramMay_calls l[k] (HG.out _ (List.getElem_mem hkl)) (wr.alloc (.cells l[k].cells.toArray 62))
      have HNx : Hid ((l.take (k + 1)).all (pmsB rate due) = pmsB rate due l[k]) := by
        rw [Hid, List.take_succ_eq_append_getElem hkl, List.all_append, HT.out]
        simp
      have HFalse : Hid (pmsB rate due l[k] = false → q = false) := fun h => by
        rw [← HQ.out, List.all_eq_false]
        exact ⟨_, List.getElem_mem hkl, by rw [h]; simp⟩
      have HPm : Hid (pmsB rate due l[k] = (pmB l[k] && !(l[k].rt && !rate) && !(decide (0 < l[k].du) && !due))) := rfl
      generalize pmsB rate due l[k] = qs at *
      generalize pmB l[k] = qp at *
      generalize l[k] = y at *
      obtain ⟨nm, ty, pl, rt, pd, st, du⟩ := y
      have c0 : wr.cell? ⟨b, o + k * 7, none⟩ = some (.string nm) := hcr 0 (by omega)
      have c1 : wr.cell? ⟨b, o + k * 7 + 1, none⟩ = some (.int .u8 ty) := hcr 1 (by omega)
      have c2 : wr.cell? ⟨b, o + k * 7 + 2, none⟩ = some (.int .i64 pl) := hcr 2 (by omega)
      have c3 : wr.cell? ⟨b, o + k * 7 + 3, none⟩ = some (.bool rt) := hcr 3 (by omega)
      have c4 : wr.cell? ⟨b, o + k * 7 + 4, none⟩ = some (.int .i64 pd) := hcr 4 (by omega)
      have c5 : wr.cell? ⟨b, o + k * 7 + 5, none⟩ = some (.int .i64 st) := hcr 5 (by omega)
      have c6 : wr.cell? ⟨b, o + k * 7 + 6, none⟩ = some (.int .i64 du) := hcr 6 (by omega)
      simp only [Pm.val, Pm.cells, List.toArray] at CC
      simp only at HPm
      clear hcr hrow
      go_wp2_with fail
      refine CC.mono ?_
      rintro x w2 ⟨rfl, hb⟩
      have HB2 : Hid (Below w.heap.size w w2) := HB.out.trans (((Below.refl wr.heap.size wr).alloc (Nat.le_refl _) _).trans (hb.mono (by simp)) |>.mono HB.out.size)
      have d3 : w2.cell? ⟨wr.heap.size, 3, none⟩ = some (.bool rt) := (hb.cell (p := ⟨wr.heap.size, 3, none⟩) (by simp)).trans (by simp)
      have d6 : w2.cell? ⟨wr.heap.size, 6, none⟩ = some (.int .i64 du) := (hb.cell (p := ⟨wr.heap.size, 6, none⟩) (by simp)).trans (by simp)
      clear hb CC c0 c1 c2 c3 c4 c5 c6
      have HQs : Hid (qs = (qp && (!rt || rate) && (!(decide (0 < du)) || due))) := by
        rw [Hid, HPm.out]
        cases qp <;> cases rt <;> cases rate <;> cases due <;> cases decide (0 < du) <;> rfl
      by_cases hdu : 0 < du
      all_goals
        (cases qp <;> cases rt <;> cases rate <;> cases due)
      all_goals go_wp2_with fail
      all_goals first
        | (have e : qs = true := by rw [HQs.out]; simp [hdu]
           go_roundw
           case rel => exact ⟨k + 1, by omega, rfl, by go_num, HB2, by rw [Hid, HNx.out]; exact e⟩
           case measure => simp [intOf]; omega)
        | (have e : qs = false := by rw [HQs.out]; simp [hdu]
           go_ret
           exact ⟨bool_ret (HFalse.out e).symm, HB2.out⟩)
    · obtain rfl : k = n := by omega
      go_wp2_with fail
      go_ret
      exact ⟨bool_ret (HE.out k (Nat.le_refl _) HT.out rfl).symm, HB.out⟩
open Ex.shape
def Eqn.good(q:Eqn):Prop:=(∀s∈q.ns,s.size≤1048576)∧q.ns.length≤1048576∧q.e.good∧q.e.bulk≤1048576
def Nd.good(n:Nd):Prop:=n.nm.size≤1048576∧n.ins.length≤1048576∧n.outs.length≤1048576∧n.vars.length≤1048576∧n.eqs.length≤1048576∧(∀p∈n.ins,p.nm.size≤1048576)∧(∀p∈n.outs,p.nm.size≤1048576)∧(∀p∈n.vars,p.nm.size≤1048576)∧∀q∈n.eqs,q.good
def eqB(q:Eqn):Bool:=(decide (1≤q.ns.length∧q.ns.length≤32)&&q.ns.all nameB)&&q.e.shape
def ndB(n:Nd):Bool:=nameB n.nm&&(n.ins.all (pmsB n.fl false)&&n.outs.all (pmsB false n.fl)&&n.vars.all (pmsB false false))&&n.eqs.all eqB
theorem take_all{α:Type}{f:α→Bool}{l:List α}{k:Nat}(h:k<l.length)(ht:(l.take k).all f=true):(l.take (k+1)).all f=f l[k]:=by
 rw[List.take_succ_eq_append_getElem h,List.all_append,ht]
 simp
theorem all_false{α:Type}{f:α→Bool}{l:List α}{k:Nat}(h:k<l.length)(hf:f l[k]=false):l.all f=false:=by
 rw[List.all_eq_false]
 exact⟨_,List.getElem_mem h,by rw[hf];simp⟩
theorem all_true{α:Type}{f:α→Bool}{l:List α}{k:Nat}(h:k=l.length)(ht:(l.take k).all f=true):l.all f=true:=by rwa[h,List.take_length] at ht
set_option maxRecDepth 100000 in
set_option maxHeartbeats 6400000 in
theorem eqMay_calls(q:Eqn)(hg:q.good)(w:World)(hl:q.lies w)(ht:HasTab w):Calls Tryz.prog 121 #[q.val] w fun x w'=>x=.returned (.bool (eqB q))∧Below w.heap.size w w':=by
 have hb0:Below w.heap.size w (w.alloc (.cells q.cells.toArray 64)):=bal _
 have CE:=fun W (h:Below w.heap.size w W)=>exprMay_calls q.e hg.2.2.2 hg.2.2.1 W (lies_below h _ hl.2) (ht.below h)
 have HB0:Hid _:=hb0
 have HQ:Hid (eqB q=((decide (1≤q.ns.length∧q.ns.length≤32)&&q.ns.all nameB)&&q.e.shape)):=rfl
 generalize eqB q=qb at *
 generalize q.e.shape=qs at *
 have HG:=hid (hg.1)
 have hn:=hg.2.1
 have HL:=hid (hl.1)
 obtain⟨na,nc,ns,pq,⟨kd,pl,nm,it,dn,a,cap,l⟩⟩:=q
 obtain⟨n,hN⟩:=nw (ns.length)
 have HN:=hid hN
 simp only[Eqn.val,Eqn.cells,Ex.cells,Ex.val,List.toArray] at *
 rw[←hN] at hn HQ HB0 ⊢
 clear hN hg hl ht hb0
 by_cases h1:1≤n∧n≤32
 ·have HQ2:Hid (qb=(ns.all nameB&&qs)):=by
   rw[Hid,HQ.out,decide_eq_true h1]
   simp
  obtain⟨h1,h32⟩:=h1
  clear HQ
  go_enter Tryz.func121,Tryz.ntmps121
  go_wp2_with fail
  go_loopw [2,18] (fun v i wr=>∃k:Nat,k≤n∧v=.bool false∧i=.int .i64 k∧Hid (Below w.heap.size w wr)∧Hid ((ns.take k).all nameB=true)∧Hid (Below (w.heap.size+1) (w.alloc (.cells #[.slice na n nc,.int .i64 pq,.int .u8 kd,.int .i64 pl,.string nm,.int .i64 it,.int .i64 dn,.slice a l.length cap] 64)) wr)) (fun _ i _=>n-(intOf i).toNat)
  case atStart=>exact⟨0,by omega,rfl,rfl,HB0,by simp[Hid],Below.refl _ _⟩
  case round =>
   obtain⟨k,hk,rfl,rfl,HB,HT,HX⟩:=hrel
   by_cases hlt:k<n
   ·have hkl:k<ns.length:=by rw[←HN.out];exact hlt
    obtain⟨b,o,rfl,hbl,hrow⟩:=HL.out (by intro h;rw[h] at hkl;simp at hkl)
    have c0:wr.cell? ⟨b,o+k,none⟩=some (.string ns[k]):=by
     have:=hrow k hkl 0 (by omega)
     rw[Nat.mul_one,Nat.add_zero] at this
     exact(HB.out.cell (p:=⟨b,o+k,none⟩) hbl).trans this
    have CC:=lexName_calls ns[k] wr (HG.out _ (List.getElem_mem hkl))
    have HNx:Hid _:=take_all hkl HT.out
    have HFalse:Hid (nameB ns[k]=false→ns.all nameB=false):=fun h=>all_false hkl h
    generalize nameB ns[k]=qn at *
    generalize ns[k]=y at *
    clear hrow
    go_wp2_with fail
    refine CC.mono ?_
    rintro x w2 ⟨rfl,hb⟩
    have HB2:=hid (HB.out.trans (hb.mono HB.out.size))
    have HX2:Hid (Below (w.heap.size+1) (w.alloc (.cells #[.slice (some ⟨b,o,none⟩) n nc,.int .i64 pq,.int .u8 kd,.int .i64 pl,.string nm,.int .i64 it,.int .i64 dn,.slice a l.length cap] 64)) w2):=HX.out.trans (hb.mono (by have:=HX.out.size;simpa using this))
    clear hb CC c0 HB HX
    cases qn
    ·go_wp2_with fail
     go_ret
     exact⟨bool_ret (by rw[HQ2.out,HFalse.out (by first|rfl|trivial)];rfl),HB2.out⟩
    ·go_wp2_with fail
     go_roundw
     case rel=>exact⟨k+1,by omega,rfl,by go_num,HB2,HNx,HX2⟩
     case measure=>simp[intOf];omega
   ·obtain rfl:k=n:=by omega
    have CC:=CE wr HB.out
    have cx:∀j,j<8→wr.cell? ⟨w.heap.size,j,none⟩=(#[.slice na k nc,.int .i64 pq,.int .u8 kd,.int .i64 pl,.string nm,.int .i64 it,.int .i64 dn,.slice a l.length cap]:Array Value)[j]?:=fun j hj=>by
     rw[HX.out.cell (p:=⟨w.heap.size,j,none⟩) (by show w.heap.size<w.heap.size+1;omega),World.cell?_alloc_at _ _ _ _ rfl]
    have x2:=cx 2 (by omega)
    have x3:=cx 3 (by omega)
    have x4:=cx 4 (by omega)
    have x5:=cx 5 (by omega)
    have x6:=cx 6 (by omega)
    have x7:=cx 7 (by omega)
    simp at x2 x3 x4 x5 x6 x7
    have HAll:Hid _:=all_true HN.out HT.out
    clear cx CE
    go_wp2_with fail
    refine CC.mono ?_
    rintro x w2 ⟨rfl,hb⟩
    have HB2:=hid (HB.out.trans (hb.mono HB.out.size))
    clear hb CC x2 x3 x4 x5 x6 x7
    go_wp2_with fail
    go_ret
    exact⟨bool_ret (by rw[HQ2.out,HAll.out];rfl),HB2.out⟩
 ·have HQ2:Hid (qb=false):=by
   rw[Hid,HQ.out,decide_eq_false h1]
   simp
  clear HQ CE
  go_enter Tryz.func121,Tryz.ntmps121
  go_wp2_with fail
  all_goals first
   | (go_ret;exact⟨bool_ret HQ2.out.symm,HB0.out⟩)
   | (exfalso;omega)
set_option maxRecDepth 100000 in
set_option maxHeartbeats 6400000 in
theorem nodeMay_calls(nd:Nd)(hg:nd.good)(w:World)(hl:nd.lies w)(ht:HasTab w):Calls Tryz.prog 89 #[nd.val] w fun x w'=>x=.returned (.bool (ndB nd))∧Below w.heap.size w w':=by
 have hb0:Below w.heap.size w (w.alloc (.cells nd.cells.toArray 60)):=bal _
 have CN:=lexName_calls nd.nm (w.alloc (.cells nd.cells.toArray 60)) hg.1
 have C1:=fun W (h:Below w.heap.size w W)=>paramsMay_calls nd.ins nd.ia nd.ic nd.fl false hg.2.2.2.2.2.1 hg.2.1 W (rowIn_below hl.1 h)
 have C2:=fun W (h:Below w.heap.size w W)=>paramsMay_calls nd.outs nd.oa nd.oc false nd.fl hg.2.2.2.2.2.2.1 hg.2.2.1 W (rowIn_below hl.2.1 h)
 have C3:=fun W (h:Below w.heap.size w W)=>paramsMay_calls nd.vars nd.va nd.vc false false hg.2.2.2.2.2.2.2.1 hg.2.2.2.1 W (rowIn_below hl.2.2.1 h)
 have CQ:∀(k:Nat)(h:k<nd.eqs.length)(W W':World),Below w.heap.size w W→Below W.heap.size W W'→Calls Tryz.prog 121 #[nd.eqs[k].val] W' fun x w'=>x=.returned (.bool (eqB nd.eqs[k]))∧Below W'.heap.size W' w':=fun k h W W' hb hb' =>
  eqMay_calls _ (hg.2.2.2.2.2.2.2.2 _ (List.getElem_mem h)) W' (Eqn.lies_below (hl.2.2.2.2 _ (List.getElem_mem h)) (hb.trans (hb'.mono hb.size))) (ht.below (hb.trans (hb'.mono hb.size)))
 have HRow:=hid (hl.2.2.2.1)
 have HB0:Hid _:=hb0
 have HQ:Hid (ndB nd=(nameB nd.nm&&(nd.ins.all (pmsB nd.fl false)&&nd.outs.all (pmsB false nd.fl)&&nd.vars.all (pmsB false false))&&nd.eqs.all eqB)):=rfl
 generalize ndB nd=qb at *
 generalize nameB nd.nm=q0 at *
 generalize nd.ins.all (pmsB nd.fl false)=q1 at *
 generalize nd.outs.all (pmsB false nd.fl)=q2 at *
 generalize nd.vars.all (pmsB false false)=q3 at *
 have hn:=hg.2.2.2.2.1
 obtain⟨fl,nm,pl,ia,ic,ins,oa,oc,outs,va,vc,vars,qa,qc,eqs⟩:=nd
 obtain⟨n,hN⟩:=nw (eqs.length)
 have HN:=hid hN
 simp only[Nd.val,Nd.cells,List.toArray] at *
 rw[←hN] at hn CN HB0 ⊢
 clear hN hg hl ht hb0
 obtain⟨W0,hW0⟩:=nw (w.alloc (.cells #[.bool fl,.string nm,.int .i64 pl,.slice ia ins.length ic,.slice oa outs.length oc,.slice va vars.length vc,.slice qa n qc] 60))
 have HW0:Hid (∀W,Below (w.heap.size+1) W0 W→∀j,j<7→W.cell? ⟨w.heap.size,j,none⟩=(#[.bool fl,.string nm,.int .i64 pl,.slice ia ins.length ic,.slice oa outs.length oc,.slice va vars.length vc,.slice qa n qc]:Array Value)[j]?):=fun W h j hj=>by
  rw[h.cell (p:=⟨w.heap.size,j,none⟩) (by show w.heap.size<w.heap.size+1;omega),hW0,World.cell?_alloc_at _ _ _ _ rfl]
 have HS0:Hid (W0.heap.size=w.heap.size+1):=by rw[Hid,hW0];simp
 have HBW:Hid (Below w.heap.size w W0):=by rw[hW0];exact HB0.out
 have HEq:Hid _:=hW0
 cases q0
 ·go_enter Tryz.func89,Tryz.ntmps89
  go_wp2_with fail
  refine CN.mono ?_
  rintro x w2 ⟨rfl,hb⟩
  have HB:Hid (Below w.heap.size w w2):=HB0.out.trans (hb.mono (by simp))
  clear hb CN C1 C2 C3 CQ
  go_wp2_with fail
  go_ret
  exact⟨bool_ret (by rw[HQ.out];rfl),HB.out⟩
 ·clear hW0
  go_enter Tryz.func89,Tryz.ntmps89
  go_wp2_with fail
  refine CN.mono ?_
  rintro x w2 ⟨rfl,hb⟩
  rw[←HEq.out] at hb
  have HX2:Hid (Below (w.heap.size+1) W0 w2):=by have:=HS0.out;rw[this] at hb;exact hb
  have HB2:Hid (Below w.heap.size w w2):=HBW.out.trans (HX2.out.mono (by omega))
  have x0:=HW0.out w2 HX2.out 0 (by omega)
  have x3:=HW0.out w2 HX2.out 3 (by omega)
  have x4:=HW0.out w2 HX2.out 4 (by omega)
  have x5:=HW0.out w2 HX2.out 5 (by omega)
  have x6:=HW0.out w2 HX2.out 6 (by omega)
  simp at x0 x3 x4 x5 x6
  have C1':=C1 w2 HB2.out
  clear hb CN C1
  cases q1
  ·go_wp2_with fail
   refine C1'.mono ?_
   rintro x w3 ⟨rfl,hb⟩
   have HB3:=hid (HB2.out.trans (hb.mono HB2.out.size))
   clear hb C1' C2 C3 CQ x0 x3 x4 x5 x6
   go_wp2_with fail
   go_ret
   exact⟨bool_ret (by rw[HQ.out];rfl),HB3.out⟩
  ·go_wp2_with fail
   refine C1'.mono ?_
   rintro x w3 ⟨rfl,hb⟩
   have HB3:=hid (HB2.out.trans (hb.mono HB2.out.size))
   have HX3:Hid (Below (w.heap.size+1) W0 w3):=HX2.out.trans (hb.mono (by have h1:=HX2.out.size;have h2:=HS0.out;omega))
   clear x0 x3 x4 x5 x6
   have x0:=HW0.out w3 HX3.out 0 (by omega)
   have x4:=HW0.out w3 HX3.out 4 (by omega)
   have x5:=HW0.out w3 HX3.out 5 (by omega)
   have x6:=HW0.out w3 HX3.out 6 (by omega)
   simp at x0 x4 x5 x6
   have C2':=C2 w3 HB3.out
   clear hb C1' C2
   cases q2
   ·go_wp2_with fail
    refine C2'.mono ?_
    rintro x w4 ⟨rfl,hb⟩
    have HB4:=hid (HB3.out.trans (hb.mono HB3.out.size))
    clear hb C2' C3 CQ x0 x4 x5 x6
    go_wp2_with fail
    go_ret
    exact⟨bool_ret (by rw[HQ.out];rfl),HB4.out⟩
   ·go_wp2_with fail
    refine C2'.mono ?_
    rintro x w4 ⟨rfl,hb⟩
    have HB4:=hid (HB3.out.trans (hb.mono HB3.out.size))
    have HX4:Hid (Below (w.heap.size+1) W0 w4):=HX3.out.trans (hb.mono (by have h1:=HX3.out.size;have h2:=HS0.out;omega))
    clear x0 x4 x5 x6
    have x5:=HW0.out w4 HX4.out 5 (by omega)
    have x6:=HW0.out w4 HX4.out 6 (by omega)
    simp at x5 x6
    have C3':=C3 w4 HB4.out
    clear hb C2' C3
    cases q3
    ·go_wp2_with fail
     refine C3'.mono ?_
     rintro x w5 ⟨rfl,hb⟩
     have HB5:=hid (HB4.out.trans (hb.mono HB4.out.size))
     clear hb C3' CQ x5 x6
     go_wp2_with fail
     go_ret
     exact⟨bool_ret (by rw[HQ.out];rfl),HB5.out⟩
    ·go_wp2_with fail
     refine C3'.mono ?_
     rintro x w5 ⟨rfl,hb⟩
     have HB5:=hid (HB4.out.trans (hb.mono HB4.out.size))
     have HX5:Hid (Below (w.heap.size+1) W0 w5):=HX4.out.trans (hb.mono (by have h1:=HX4.out.size;have h2:=HS0.out;omega))
     clear x5 x6
     have x6:=HW0.out w5 HX5.out 6 (by omega)
     simp at x6
     have HQ2:Hid (qb=eqs.all eqB):=by rw[Hid,HQ.out];rfl
     have HCQ:Hid _:=CQ
     clear hb C3' HQ CQ
     go_wp2_with fail
     go_loopw [2,32] (fun v i wr=>∃k:Nat,k≤n∧v=.bool false∧i=.int .i64 k∧Hid (Below w.heap.size w wr)∧Hid ((eqs.take k).all eqB=true)) (fun _ i _=>n-(intOf i).toNat)
     case atStart=>exact⟨0,by omega,rfl,rfl,HB5,by simp[Hid]⟩
     case round =>
      obtain⟨k,hk,rfl,rfl,HB,HT⟩:=hrel
      by_cases hlt:k<n
      ·have hkl:k<eqs.length:=by rw[←HN.out];exact hlt
       obtain⟨b,o,rfl,hbl,hrow⟩:=HRow.out (by intro h;rw[h] at hkl;simp at hkl)
       have hcr:∀j,j<8→wr.cell? ⟨b,o+k*8+j,none⟩=eqs[k].cells[j]?:=fun j hj=>(HB.out.cell (p:=⟨b,o+k*8+j,none⟩) hbl).trans (hrow k hkl j hj)
       have CC:=HCQ.out k hkl wr (wr.alloc (.cells eqs[k].cells.toArray 64)) HB.out (bal _)
       have HNx:Hid _:=take_all hkl HT.out
       have HFalse:Hid (eqB eqs[k]=false→eqs.all eqB=false):=fun h=>all_false hkl h
       generalize eqB eqs[k]=qs at *
       generalize eqs[k]=y at *
       obtain⟨na1,nc1,ns1,pq1,⟨kd1,pl1,nm1,it1,dn1,a1,cap1,l1⟩⟩:=y
       have c0:wr.cell? ⟨b,o+k*8,none⟩=some (.slice na1 ns1.length nc1):=hcr 0 (by omega)
       have c1:wr.cell? ⟨b,o+k*8+1,none⟩=some (.int .i64 pq1):=hcr 1 (by omega)
       have c2:wr.cell? ⟨b,o+k*8+2,none⟩=some (.int .u8 kd1):=hcr 2 (by omega)
       have c3:wr.cell? ⟨b,o+k*8+3,none⟩=some (.int .i64 pl1):=hcr 3 (by omega)
       have c4:wr.cell? ⟨b,o+k*8+4,none⟩=some (.string nm1):=hcr 4 (by omega)
       have c5:wr.cell? ⟨b,o+k*8+5,none⟩=some (.int .i64 it1):=hcr 5 (by omega)
       have c6:wr.cell? ⟨b,o+k*8+6,none⟩=some (.int .i64 dn1):=hcr 6 (by omega)
       have c7:wr.cell? ⟨b,o+k*8+7,none⟩=some (.slice a1 l1.length cap1):=hcr 7 (by omega)
       simp only[Eqn.val,Eqn.cells,Ex.cells,List.toArray] at CC
       clear hcr hrow
       go_wp2_with fail
       refine CC.mono ?_
       rintro x w6 ⟨rfl,hb⟩
       have HB6:Hid (Below w.heap.size w w6):=HB.out.trans (((Below.refl wr.heap.size wr).alloc (Nat.le_refl _) _).trans (hb.mono (by simp)) |>.mono HB.out.size)
       clear hb CC c0 c1 c2 c3 c4 c5 c6 c7
       cases qs
       ·go_wp2_with fail
        go_ret
        exact⟨bool_ret (by rw[HQ2.out,HFalse.out (by first|rfl|trivial)]),HB6.out⟩
       ·go_wp2_with fail
        go_roundw
        case rel=>exact⟨k+1,by omega,rfl,by go_num,HB6,HNx⟩
        case measure=>simp[intOf];omega
      ·obtain rfl:k=n:=by omega
       have HAll:Hid _:=all_true HN.out HT.out
       go_wp2_with fail
       go_ret
       exact⟨bool_ret (by rw[HQ2.out,HAll.out]),HB.out⟩
def fewB(n:Nd):Bool:=decide (n.ins.length≤32∧n.outs.length≤32∧n.vars.length≤32∧n.eqs.length≤128)
def eqSizes:List Eqn→Nat
 | []=>0
 | q::r=>q.e.size+eqSizes r
def eqDeep:List Eqn→Nat
 | []=>0
 | q::r=>max q.e.depth (eqDeep r)
def ndSizes:List Nd→Nat
 | []=>0
 | n::r=>eqSizes n.eqs+ndSizes r
def ndDeep:List Nd→Nat
 | []=>0
 | n::r=>max (eqDeep n.eqs) (ndDeep r)
theorem eqSizes_app(a b:List Eqn):eqSizes (a++b)=eqSizes a+eqSizes b:=by
 induction a with
 | nil=>simp[eqSizes]
 | cons q r ih=>simp only[List.cons_append,eqSizes,ih];omega
theorem ndSizes_app(a b:List Nd):ndSizes (a++b)=ndSizes a+ndSizes b:=by
 induction a with
 | nil=>simp[ndSizes]
 | cons q r ih=>simp only[List.cons_append,ndSizes,ih];omega
theorem eqSizes_at(l:List Eqn)(k:Nat)(h:k<l.length):eqSizes (l.take (k+1))=eqSizes (l.take k)+l[k].e.size:=by
 rw[List.take_succ_eq_append_getElem h,eqSizes_app]
 simp[eqSizes]
theorem ndSizes_at(l:List Nd)(k:Nat)(h:k<l.length):ndSizes (l.take (k+1))=ndSizes (l.take k)+eqSizes l[k].eqs:=by
 rw[List.take_succ_eq_append_getElem h,ndSizes_app]
 simp[ndSizes]
theorem eqDeep_app(a b:List Eqn):eqDeep (a++b)=max (eqDeep a) (eqDeep b):=by
 induction a with
 | nil=>simp[eqDeep]
 | cons q r ih=>simp only[List.cons_append,eqDeep,ih];omega
theorem ndDeep_app(a b:List Nd):ndDeep (a++b)=max (ndDeep a) (ndDeep b):=by
 induction a with
 | nil=>simp[ndDeep]
 | cons q r ih=>simp only[List.cons_append,ndDeep,ih];omega
theorem eqDeep_at(l:List Eqn)(k:Nat)(h:k<l.length):eqDeep (l.take (k+1))=max (eqDeep (l.take k)) l[k].e.depth:=by
 rw[List.take_succ_eq_append_getElem h,eqDeep_app]
 simp[eqDeep]
theorem ndDeep_at(l:List Nd)(k:Nat)(h:k<l.length):ndDeep (l.take (k+1))=max (ndDeep (l.take k)) (eqDeep l[k].eqs):=by
 rw[List.take_succ_eq_append_getElem h,ndDeep_app]
 simp[ndDeep]
theorem eqSizes_take(l:List Eqn)(k:Nat):eqSizes (l.take k)≤eqSizes l:=by
 have:eqSizes l=eqSizes (l.take k)+eqSizes (l.drop k):=by rw[←eqSizes_app,List.take_append_drop]
 omega
theorem ndSizes_take(l:List Nd)(k:Nat):ndSizes (l.take k)≤ndSizes l:=by
 have:ndSizes l=ndSizes (l.take k)+ndSizes (l.drop k):=by rw[←ndSizes_app,List.take_append_drop]
 omega
theorem eqDeep_le(l:List Eqn):eqDeep l≤eqSizes l:=by
 induction l with
 | nil=>simp[eqDeep]
 | cons q r ih=>have:=depth_le q.e;simp only[eqDeep,eqSizes] at *;omega
theorem ndDeep_le(l:List Nd):ndDeep l≤ndSizes l:=by
 induction l with
 | nil=>simp[ndDeep]
 | cons n r ih=>have:=eqDeep_le n.eqs;simp only[ndDeep,ndSizes] at *;omega
def mayOf(l:List Nd):Int:=if (decide (l.length≤64)&&l.all fewB)=false then 42 else if l.all ndB=false then 40 else if 64<ndDeep l then 41 else if 4096<ndSizes l then 42 else 0
def Goods(l:List Nd):Prop:=(∀n∈l,n.good)∧l.length≤1048576∧ndSizes l≤1048576
def Lie(w:World)(a:Option Addr)(l:List Nd):Prop:=rowIn Nd.cells 7 w a l∧∀n∈l,n.lies w
theorem Lie.below{w w':World}{a:Option Addr}{l:List Nd}(h:Lie w a l)(hb:Below w.heap.size w w'):Lie w' a l:=⟨rowIn_below h.1 hb,fun n hn=>Nd.lies_below (h.2 n hn) hb⟩
set_option maxRecDepth 100000 in
set_option maxHeartbeats 6400000 in
theorem listsMay_calls(l:List Nd)(a:Option Addr)(cap:Nat)(hg:Goods l)(w:World)(hl:Lie w a l):Calls Tryz.prog 88 #[.agg #[.slice a l.length cap]] w fun x w'=>x=.returned (.bool (decide (l.length≤64)&&l.all fewB))∧Below w.heap.size w w':=by
 obtain⟨n,hN⟩:=nw (l.length)
 have hn:n≤1048576:=by rw[hN];exact hg.2.1
 have HG:=hid (hg.1)
 have HL:=hid (hl.1)
 rw[←hN]
 have HN:=hid hN
 have HB0:Hid (Below w.heap.size w (w.alloc (.cells #[.slice a n cap] 24))):=bal _
 clear hN hg hl
 by_cases h64:n≤64
 ·have HQ:Hid ((decide (n≤64)&&l.all fewB)=l.all fewB):=by rw[Hid,decide_eq_true h64];rfl
  rw[HQ.out]
  go_enter Tryz.func88,Tryz.ntmps88
  go_wp2_with fail
  go_loopw [2,13] (fun v i wr=>∃k:Nat,k≤n∧v=.bool false∧i=.int .i64 k∧Hid (Below w.heap.size w wr)∧Hid ((l.take k).all fewB=true)) (fun _ i _=>n-(intOf i).toNat)
  case atStart=>exact⟨0,by omega,rfl,rfl,HB0,by simp[Hid]⟩
  case round =>
   obtain⟨k,hk,rfl,rfl,HB,HT⟩:=hrel
   by_cases hlt:k<n
   ·have hkl:k<l.length:=by rw[←HN.out];exact hlt
    obtain⟨b,o,rfl,hbl,hrow⟩:=HL.out (by intro h;rw[h] at hkl;simp at hkl)
    have hcr:∀j,j<7→wr.cell? ⟨b,o+k*7+j,none⟩=l[k].cells[j]?:=fun j hj=>(HB.out.cell (p:=⟨b,o+k*7+j,none⟩) hbl).trans (hrow k hkl j hj)
    have hgk:=HG.out _ (List.getElem_mem hkl)
    have HNx:Hid _:=take_all hkl HT.out
    have HFalse:Hid (fewB l[k]=false→l.all fewB=false):=fun h=>all_false hkl h
    have HF:Hid (fewB l[k]=decide (l[k].ins.length≤32∧l[k].outs.length≤32∧l[k].vars.length≤32∧l[k].eqs.length≤128)):=rfl
    obtain⟨-,g1,g2,g3,g4,-⟩:=hgk
    generalize fewB l[k]=qs at *
    generalize l[k]=y at *
    obtain⟨fl,nm,pl,ia,ic,ins,oa,oc,outs,va,vc,vars,qa,qc,eqs⟩:=y
    have c0:wr.cell? ⟨b,o+k*7,none⟩=some (.bool fl):=hcr 0 (by omega)
    have c1:wr.cell? ⟨b,o+k*7+1,none⟩=some (.string nm):=hcr 1 (by omega)
    have c2:wr.cell? ⟨b,o+k*7+2,none⟩=some (.int .i64 pl):=hcr 2 (by omega)
    have c3:wr.cell? ⟨b,o+k*7+3,none⟩=some (.slice ia ins.length ic):=hcr 3 (by omega)
    have c4:wr.cell? ⟨b,o+k*7+4,none⟩=some (.slice oa outs.length oc):=hcr 4 (by omega)
    have c5:wr.cell? ⟨b,o+k*7+5,none⟩=some (.slice va vars.length vc):=hcr 5 (by omega)
    have c6:wr.cell? ⟨b,o+k*7+6,none⟩=some (.slice qa eqs.length qc):=hcr 6 (by omega)
    simp only at HF g1 g2 g3 g4
    generalize ins.length=n1 at *
    generalize outs.length=n2 at *
    generalize vars.length=n3 at *
    generalize eqs.length=n4 at *
    have HB2:Hid (Below w.heap.size w (wr.alloc (.cells #[.bool fl,.string nm,.int .i64 pl,.slice ia n1 ic,.slice oa n2 oc,.slice va n3 vc,.slice qa n4 qc] 60))):=HB.out.alloc HB.out.size _
    clear hcr hrow
    by_cases hf:n1≤32∧n2≤32∧n3≤32∧n4≤128
    ·have HT2:Hid (qs=true):=by rw[Hid,HF.out,decide_eq_true hf]
     obtain⟨f1,f2,f3,f4⟩:=hf
     go_wp2_with fail
     all_goals first
      | (exfalso;omega)
      | (go_roundw;(case rel=>exact⟨k+1,by omega,rfl,by go_num,HB2,by rw[Hid,HNx.out];exact HT2.out⟩);(case measure=>simp[intOf];omega))
    ·have HT2:Hid (qs=false):=by rw[Hid,HF.out,decide_eq_false hf]
     go_wp2_with fail
     all_goals first
      | (exfalso;omega)
      | (go_ret;exact⟨bool_ret (HFalse.out HT2.out).symm,HB2.out⟩)
   ·obtain rfl:k=n:=by omega
    have HAll:Hid _:=all_true HN.out HT.out
    go_wp2_with fail
    go_ret
    exact⟨bool_ret HAll.out.symm,HB.out⟩
 ·have HQ:Hid ((decide (n≤64)&&l.all fewB)=false):=by rw[Hid,decide_eq_false h64];rfl
  rw[HQ.out]
  go_enter Tryz.func88,Tryz.ntmps88
  go_wp2_with fail
  go_ret
  exact⟨rfl,HB0.out⟩
set_option maxRecDepth 100000 in
set_option maxHeartbeats 6400000 in
theorem measureAll_calls(l:List Nd)(a:Option Addr)(cap:Nat)(hg:Goods l)(w:World)(hl:Lie w a l):Calls Tryz.prog 90 #[.agg #[.slice a l.length cap]] w fun x w'=>x=.returned (.tuple #[.int .i64 (ndSizes l),.int .i64 (ndDeep l)])∧Below w.heap.size w w':=by
 obtain⟨n,hN⟩:=nw (l.length)
 have hn:n≤1048576:=by rw[hN];exact hg.2.1
 have HG:=hid (hg.1)
 have HSum:=hid (hg.2.2)
 have HL:=hid hl
 rw[←hN]
 have HN:=hid hN
 have HB0:Hid (Below w.heap.size w (w.alloc (.cells #[.slice a n cap] 24))):=bal _
 clear hN hg hl
 go_enter Tryz.func90,Tryz.ntmps90
 go_wp2_with fail
 go_loopw [2,3,13] (fun s d i wr=>∃k:Nat,k≤n∧i=.int .i64 k∧Hid (Below w.heap.size w wr)∧s=.int .i64 (ndSizes (l.take k):Nat)∧d=.int .i64 (ndDeep (l.take k):Nat)) (fun _ _ i _=>n-(intOf i).toNat)
 case atStart=>exact⟨0,by omega,rfl,HB0,by simp[ndSizes],by simp[ndDeep]⟩
 case round =>
  obtain⟨k,hk,rfl,HB,rfl,rfl⟩:=hrel
  by_cases hlt:k<n
  ·have hkl:k<l.length:=by rw[←HN.out];exact hlt
   obtain⟨b,o,rfl,hbl,hrow⟩:=HL.out.1 (by intro h;rw[h] at hkl;simp at hkl)
   have hcr:∀j,j<7→wr.cell? ⟨b,o+k*7+j,none⟩=l[k].cells[j]?:=fun j hj=>(HB.out.cell (p:=⟨b,o+k*7+j,none⟩) hbl).trans (hrow k hkl j hj)
   have hgk:=HG.out _ (List.getElem_mem hkl)
   have hlk:=HL.out.2 _ (List.getElem_mem hkl)
   have HNx:Hid _:=ndSizes_at l k hkl
   have HDx:Hid _:=ndDeep_at l k hkl
   have HBd:Hid (ndSizes (l.take k)+eqSizes l[k].eqs≤1048576):=by
    have h1:=ndSizes_take l (k+1)
    rw[ndSizes_at l k hkl] at h1
    have:=HSum.out
    exact Nat.le_trans h1 this
   have hdl:=ndDeep_le (l.take k)
   have HQs:=hid (hgk.2.2.2.2.2.2.2.2)
   have hqn:=hgk.2.2.2.2.1
   have HQL:=hid (hlk.2.2.2)
   clear hgk hlk
   generalize l[k]=y at *
   obtain⟨fl,nm,pl,ia,ic,ins,oa,oc,outs,va,vc,vars,qa,qc,eqs⟩:=y
   have c0:wr.cell? ⟨b,o+k*7,none⟩=some (.bool fl):=hcr 0 (by omega)
   have c1:wr.cell? ⟨b,o+k*7+1,none⟩=some (.string nm):=hcr 1 (by omega)
   have c2:wr.cell? ⟨b,o+k*7+2,none⟩=some (.int .i64 pl):=hcr 2 (by omega)
   have c3:wr.cell? ⟨b,o+k*7+3,none⟩=some (.slice ia ins.length ic):=hcr 3 (by omega)
   have c4:wr.cell? ⟨b,o+k*7+4,none⟩=some (.slice oa outs.length oc):=hcr 4 (by omega)
   have c5:wr.cell? ⟨b,o+k*7+5,none⟩=some (.slice va vars.length vc):=hcr 5 (by omega)
   have c6:wr.cell? ⟨b,o+k*7+6,none⟩=some (.slice qa eqs.length qc):=hcr 6 (by omega)
   simp only at HNx HDx HBd HQs hqn HQL
   obtain⟨n4,hN4⟩:=nw (eqs.length)
   have HN4:=hid hN4
   rw[←hN4] at hqn c6
   clear hN4
   generalize hS:ndSizes (l.take k)=S at *
   generalize hD:ndDeep (l.take k)=D at *
   clear hS hD
   have HB2:Hid (Below w.heap.size w (wr.alloc (.cells #[.bool fl,.string nm,.int .i64 pl,.slice ia ins.length ic,.slice oa outs.length oc,.slice va vars.length vc,.slice qa n4 qc] 60))):=HB.out.alloc HB.out.size _
   have hSb:S≤1048576:=by have:=HBd.out;omega
   clear hcr hrow
   go_wp2_with fail
   go_loopw [2,3,20] (fun s d i wq=>∃j:Nat,j≤n4∧i=.int .i64 j∧Hid (Below w.heap.size w wq)∧s=.int .i64 (S+eqSizes (eqs.take j):Nat)∧d=.int .i64 (max D (eqDeep (eqs.take j)):Nat)) (fun _ _ i _=>n4-(intOf i).toNat)
   case atStart=>exact⟨0,by omega,rfl,HB2,by simp[eqSizes],by simp[eqDeep]⟩
   case round =>
    obtain⟨j,hj,rfl,HBq,rfl,rfl⟩:=hrel
    by_cases hjl:j<n4
    ·have hjk:j<eqs.length:=by rw[←HN4.out];exact hjl
     obtain⟨b',o',rfl,hbl',hrow'⟩:=HQL.out.1 (by intro h;rw[h] at hjk;simp at hjk)
     have hcr:∀i,i<8→wr.cell? ⟨b',o'+j*8+i,none⟩=eqs[j].cells[i]?:=fun i hi=>(HBq.out.cell (p:=⟨b',o'+j*8+i,none⟩) hbl').trans (hrow' j hjk i hi)
     have HGq:=HQs.out _ (List.getElem_mem hjk)
     have HLq:=HQL.out.2 _ (List.getElem_mem hjk)
     have hb2:Below w.heap.size w (wr.alloc (.cells eqs[j].cells.toArray 64)):=HBq.out.alloc HBq.out.size _
     have CC:=measure_calls eqs[j].e HGq.2.2.2 HGq.2.2.1 _ (lies_below hb2 _ HLq.2)
     have HSx:Hid _:=eqSizes_at eqs j hjk
     have HEx:Hid _:=eqDeep_at eqs j hjk
     have hsb:S+(eqSizes (eqs.take j)+eqs[j].e.size)≤1048576:=by
      have h1:=eqSizes_take eqs (j+1)
      rw[eqSizes_at eqs j hjk] at h1
      have:=HBd.out
      omega
     have hdb:=eqDeep_le (eqs.take j)
     have hde:=depth_le eqs[j].e
     have HB2q:Hid _:=hb2
     clear HGq HLq hrow' hb2
     generalize eqSizes (eqs.take j)=S2 at *
     generalize eqDeep (eqs.take j)=D2 at *
     generalize eqs[j]=y at *
     obtain⟨na1,nc1,ns1,pq1,e1⟩:=y
     simp only at HSx HEx hsb hde CC
     generalize e1.size=z1 at *
     generalize e1.depth=z2 at *
     obtain⟨kd1,pl1,nm1,it1,dn1,a1,cap1,l1⟩:=e1
     have d0:wr.cell? ⟨b',o'+j*8,none⟩=some (.slice na1 ns1.length nc1):=hcr 0 (by omega)
     have d1:wr.cell? ⟨b',o'+j*8+1,none⟩=some (.int .i64 pq1):=hcr 1 (by omega)
     have d2:wr.cell? ⟨b',o'+j*8+2,none⟩=some (.int .u8 kd1):=hcr 2 (by omega)
     have d3:wr.cell? ⟨b',o'+j*8+3,none⟩=some (.int .i64 pl1):=hcr 3 (by omega)
     have d4:wr.cell? ⟨b',o'+j*8+4,none⟩=some (.string nm1):=hcr 4 (by omega)
     have d5:wr.cell? ⟨b',o'+j*8+5,none⟩=some (.int .i64 it1):=hcr 5 (by omega)
     have d6:wr.cell? ⟨b',o'+j*8+6,none⟩=some (.int .i64 dn1):=hcr 6 (by omega)
     have d7:wr.cell? ⟨b',o'+j*8+7,none⟩=some (.slice a1 l1.length cap1):=hcr 7 (by omega)
     simp only[Eqn.cells,Ex.val,Ex.cells,List.toArray] at CC HB2q
     clear hcr
     go_wp2_with fail
     refine CC.mono ?_
     rintro x w6 ⟨rfl,hb⟩
     have HB6:=hid (HB2q.out.trans (hb.mono HB2q.out.size))
     clear hb CC d0 d1 d2 d3 d4 d5 d6 d7
     go_wp2_with fail
     all_goals
      (go_roundw
       case rel=>exact⟨j+1,by omega,by go_num,HB6,by rw[HSx.out];exact congrArg (Value.int .i64) (by omega),by rw[HEx.out];exact congrArg (Value.int .i64) (by omega)⟩
       case measure=>simp[intOf];omega)
    ·obtain rfl:j=n4:=by omega
     have HT4:Hid (eqs.take j=eqs):=by rw[Hid,HN4.out,List.take_length]
     have hdb:=eqDeep_le (eqs.take j)
     have hsb:=eqSizes_take eqs j
     go_wp2_with fail
     all_goals
      (go_roundw
       case rel=>exact⟨k+1,by omega,by go_num,HBq,by rw[HNx.out,HT4.out],by rw[HDx.out,HT4.out]⟩
       case measure=>simp[intOf];omega)
  ·obtain rfl:k=n:=by omega
   have HT:Hid (l.take k=l):=by rw[Hid,HN.out,List.take_length]
   have hdl:=ndDeep_le (l.take k)
   have hsl:=ndSizes_take l k
   have hsum:=HSum.out
   go_wp2_with fail
   refine bodyPost_ret (by simp[results,Tryz.results90,go_sem, *];try rfl) rfl ?_
   exact⟨by first|rfl|rw[HT.out],HB.out⟩
set_option maxRecDepth 100000 in
set_option maxHeartbeats 6400000 in
theorem may_prog(l:List Nd)(a:Option Addr)(cap:Nat)(hg:Goods l)(w:World)(hl:Lie w a l)(ht:HasTab w):Calls Tryz.prog 56 #[.agg #[.slice a l.length cap]] w fun x w'=>x=.returned (.int .i64 (mayOf l))∧Below w.heap.size w w':=by
 have hb0:Below w.heap.size w (w.alloc (.cells #[.slice a l.length cap] 24)):=bal _
 have CL:=listsMay_calls l a cap hg _ (hl.below hb0)
 have CM:=fun W (h:Below w.heap.size w W)=>measureAll_calls l a cap hg W (hl.below h)
 have CN:∀(k:Nat)(h:k<l.length)(W W':World),Below w.heap.size w W→Below W.heap.size W W'→Calls Tryz.prog 89 #[l[k].val] W' fun x w'=>x=.returned (.bool (ndB l[k]))∧Below W'.heap.size W' w':=fun k h W W' hb hb' =>
  nodeMay_calls _ (hg.1 _ (List.getElem_mem h)) W' (Nd.lies_below (hl.2 _ (List.getElem_mem h)) (hb.trans (hb'.mono hb.size))) (ht.below (hb.trans (hb'.mono hb.size)))
 have HM:Hid (mayOf l=if (decide (l.length≤64)&&l.all fewB)=false then 42 else if l.all ndB=false then 40 else if 64<ndDeep l then 41 else if 4096<ndSizes l then 42 else 0):=rfl
 have hdl:=ndDeep_le l
 have hsl:=hg.2.2
 obtain⟨n,hN⟩:=nw (l.length)
 have hn:n≤1048576:=by rw[hN];exact hg.2.1
 have HRow:=hid (hl.1)
 have HN:=hid hN
 generalize mayOf l=mq at *
 generalize (decide (l.length≤64)&&l.all fewB)=q1 at *
 generalize ndSizes l=S at *
 generalize ndDeep l=D at *
 rw[←hN] at CL hb0 ⊢
 simp only[←hN] at CM
 have HB0:Hid _:=hb0
 clear hN hg hl ht hb0
 cases q1
 ·go_enter Tryz.func56,Tryz.ntmps56
  go_wp2_with fail
  refine CL.mono ?_
  rintro x w2 ⟨rfl,hb⟩
  have HB:Hid (Below w.heap.size w w2):=HB0.out.trans (hb.mono (by simp))
  clear hb CL CM CN
  go_wp2_with fail
  go_ret
  exact⟨ret_nat (by rw[HM.out];rfl),HB.out⟩
 ·go_enter Tryz.func56,Tryz.ntmps56
  go_wp2_with fail
  refine CL.mono ?_
  rintro x w2 ⟨rfl,hb⟩
  have HB2:Hid (Below w.heap.size w w2):=HB0.out.trans (hb.mono (by simp))
  have HX2:Hid (Below (w.heap.size+1) (w.alloc (.cells #[.slice a n cap] 24)) w2):=by rw[Hid];simpa using hb
  have x0:w2.cell? ⟨w.heap.size,0,none⟩=some (.slice a n cap):=(hb.cell (p:=⟨w.heap.size,0,none⟩) (by simp)).trans (by simp)
  have HM2:Hid (mq=if l.all ndB=false then 40 else if 64<D then 41 else if 4096<S then 42 else 0):=by rw[Hid,HM.out];rfl
  have HCN:Hid _:=CN
  have HCM:Hid _:=CM
  clear hb CL CM CN HM
  go_wp2_with fail
  go_loopw [2,13] (fun v i wr=>∃k:Nat,k≤n∧v=.int .i64 0∧i=.int .i64 k∧Hid (Below w.heap.size w wr)∧Hid ((l.take k).all ndB=true)∧Hid (Below (w.heap.size+1) (w.alloc (.cells #[.slice a n cap] 24)) wr)) (fun _ i _=>n-(intOf i).toNat)
  case atStart=>exact⟨0,by omega,rfl,rfl,HB2,by simp[Hid],HX2⟩
  case round =>
   obtain⟨k,hk,rfl,rfl,HB,HT,HX⟩:=hrel
   by_cases hlt:k<n
   ·have hkl:k<l.length:=by rw[←HN.out];exact hlt
    obtain⟨b,o,rfl,hbl,hrow⟩:=HRow.out (by intro h;rw[h] at hkl;simp at hkl)
    have hcr:∀j,j<7→wr.cell? ⟨b,o+k*7+j,none⟩=l[k].cells[j]?:=fun j hj=>(HB.out.cell (p:=⟨b,o+k*7+j,none⟩) hbl).trans (hrow k hkl j hj)
    have CC:=HCN.out k hkl wr (wr.alloc (.cells l[k].cells.toArray 60)) HB.out (bal _)
    have HNx:Hid _:=take_all hkl HT.out
    have HFalse:Hid (ndB l[k]=false→l.all ndB=false):=fun h=>all_false hkl h
    generalize ndB l[k]=qs at *
    generalize l[k]=y at *
    obtain⟨fl,nm,pl,ia,ic,ins,oa,oc,outs,va,vc,vars,qa,qc,eqs⟩:=y
    have c0:wr.cell? ⟨b,o+k*7,none⟩=some (.bool fl):=hcr 0 (by omega)
    have c1:wr.cell? ⟨b,o+k*7+1,none⟩=some (.string nm):=hcr 1 (by omega)
    have c2:wr.cell? ⟨b,o+k*7+2,none⟩=some (.int .i64 pl):=hcr 2 (by omega)
    have c3:wr.cell? ⟨b,o+k*7+3,none⟩=some (.slice ia ins.length ic):=hcr 3 (by omega)
    have c4:wr.cell? ⟨b,o+k*7+4,none⟩=some (.slice oa outs.length oc):=hcr 4 (by omega)
    have c5:wr.cell? ⟨b,o+k*7+5,none⟩=some (.slice va vars.length vc):=hcr 5 (by omega)
    have c6:wr.cell? ⟨b,o+k*7+6,none⟩=some (.slice qa eqs.length qc):=hcr 6 (by omega)
    simp only[Nd.val,Nd.cells,List.toArray] at CC
    clear hcr hrow
    go_wp2_with fail
    refine CC.mono ?_
    rintro x w6 ⟨rfl,hb⟩
    have hb':=((Below.refl wr.heap.size wr).alloc (Nat.le_refl _) _).trans (hb.mono (by simp))
    have HB6:=hid (HB.out.trans (hb'.mono HB.out.size))
    have HX6:Hid (Below (w.heap.size+1) (w.alloc (.cells #[.slice (some ⟨b,o,none⟩) n cap] 24)) w6):=HX.out.trans (hb'.mono (by have:=HX.out.size;simpa using this))
    clear hb hb' CC c0 c1 c2 c3 c4 c5 c6 HX
    cases qs
    ·go_wp2_with fail
     go_ret
     exact⟨ret_nat (by rw[HM2.out,if_pos (HFalse.out (by first|rfl|trivial))]),HB6.out⟩
    ·go_wp2_with fail
     go_roundw
     case rel=>exact⟨k+1,by omega,rfl,by go_num,HB6,HNx,HX6⟩
     case measure=>simp[intOf];omega
   ·obtain rfl:k=n:=by omega
    have HAll:Hid _:=all_true HN.out HT.out
    have HM3:Hid (mq=if 64<D then 41 else if 4096<S then 42 else 0):=by rw[Hid,HM2.out,if_neg (by rw[HAll.out];simp)]
    have CC:=HCM.out wr HB.out
    have y0:wr.cell? ⟨w.heap.size,0,none⟩=some (.slice a k cap):=by
     rw[HX.out.cell (p:=⟨w.heap.size,0,none⟩) (by show w.heap.size<w.heap.size+1;omega),World.cell?_alloc_at _ _ _ _ rfl]
     rfl
    clear HM2
    go_wp2_with fail
    refine CC.mono ?_
    rintro x w6 ⟨rfl,hb⟩
    have HB6:=hid (HB.out.trans (hb.mono HB.out.size))
    clear hb CC y0
    by_cases h1:64<D
    ·go_wp2_with fail
     go_ret
     exact⟨ret_nat (by rw[HM3.out,if_pos h1]),HB6.out⟩
    ·by_cases h2:4096<S
     ·go_wp2_with fail
      go_ret
      exact⟨ret_nat (by rw[HM3.out,if_neg h1,if_pos h2]),HB6.out⟩
     ·go_wp2_with fail
      go_ret
      exact⟨ret_nat (by rw[HM3.out,if_neg h1,if_neg h2]),HB6.out⟩
end Go.Proofs.YthbgnpkgglbhjaaGreatDoor
