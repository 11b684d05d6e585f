import Derived.Test.YthbgnpkgglbhjaaGreatDoorRdEq
import Derived.Deep.RegionHeld3
import Derived.Deep.RegionLaw
namespace Go.Proofs.YthbgnpkgglbhjaaGreatDoor
open Go.RowKit Go.Shelf
open Ex.size Ex.depth Ex.lies Ex.bulk Ex.good Ex.bare
theorem takeR{P:Program}{md:Region.Mode}{ops:Array Oper}{Q:Exit→Act→World→Prop}{S:World→Prop}{i d:Nat}{oi:Oper}{v:Value}{fuel:Nat}{listed:Array Bool}{a:Act}{w:World}(hi:ops[i]?=some oi)(hd:oi.dst=some d)(hs:Region.noSelect ops=true)(hf:Region.free md ops listed i=true)(hr:(Region.ready md ops listed).contains i=true)(hQ:∀c a w,Q (.panic c) (a.put oi.dst v) w→Q (.panic c) a w)(hy:YieldsIf P ops S oi v a)(hS:S w)(h:wpAnyH P md ops Q S fuel (listed.setIfInBounds i true) (a.put (some d) v) w):wpAnyH P md ops Q S (fuel+1) listed a w:=wpAnyH_take hi hs hf hr hQ hy hS (by rw[hd];exact h)
def Nd.bare(n:Nd):Nd:=⟨n.fl,n.nm,n.pl,none,0,n.ins,none,0,n.outs,none,0,n.vars,none,0,n.eqs.map Eqn.bare⟩
def eltN:Elt Nd Nd:=⟨Nd.cells,7,fun _=>rfl,Nd.bare,fun Q w n=>RowQ eltP Q w n.ia n.ic n.ins∧RowQ eltP Q w n.oa n.oc n.outs∧RowQ eltP Q w n.va n.vc n.vars∧RowQ eltQ Q w n.qa n.qc n.eqs∧n.nm.size≤1000000∧(Lit.int .i64 n.pl).wf=true,fun h k=>⟨h.1.keep k,h.2.1.keep k,h.2.2.1.keep k,h.2.2.2.1.keep k,h.2.2.2.2⟩,fun h k=>⟨h.1.mono k,h.2.1.mono k,h.2.2.1.mono k,h.2.2.2.1.mono k,h.2.2.2.2⟩⟩
def IsNd(base:Nat)(w:World)(n:Nd)(v:Value):Prop:=∃x:Nd,eltN.view x=n∧v=x.val∧eltN.lies (fun k=>base≤k) w x
theorem inOf_true:inOf true=inT:=funext fun _=>if_pos rfl
theorem inOf_false:inOf false=paramT:=funext fun _=>if_neg (by decide)
theorem outOf_true:outOf' true=outT:=funext fun _=>if_pos rfl
theorem outOf_false:outOf' false=paramT:=funext fun _=>if_neg (by decide)
theorem flow_same(s:ByteArray):(s.toList==[102,108,111,119])=decide (s=⟨#[102,108,111,119]⟩):=by
 have h:=text_same s ⟨#[102,108,111,119]⟩
 rw[ByteArray.toList_eq ⟨#[102,108,111,119]⟩] at h
 exact h
theorem inL_set{α β:Type}{K:Elt α β}{R base N i:Nat}{e:TypeId}{w wr:World}{xs:List β}{v:Value}(h:InL K R base e w xs v wr)(hN:N<base)(hw:w.heap.size≤N)(x:Value):InL K R base e w xs v (wr.setCell ⟨N,i,none⟩ x) :=
 ⟨h.keeps.new hw,ownsRow_setCell_below h.own (a:=⟨N,i,none⟩) hN x,fun y hy=>K.keep (h.lie y hy) (KeepsQ.set fun hq=>by have:=hq.1;omega)⟩
theorem inL_rowQ{α β:Type}{K:Elt α β}{R base:Nat}{e:TypeId}{w wr:World}{xs:List β}{v:Value}(h:InL K R base e w xs v wr)(hf:xs.length≤100001):∃a cap,v=.slice a xs.length cap∧RowQ K (fun k=>base≤k) wr a cap xs:=by
 rcases h.own.2 with⟨h1,h2⟩|⟨g,cap,cur,rfl,h1,h2,h3,h4,_⟩
 ·refine⟨none,0,by rw[h1,h2],by omega,by unfold maxLen;omega,hf,fun hne=>absurd (List.eq_nil_of_length_eq_zero h2) hne,fun x hx=>K.mono (h.lie x hx) fun k _ hq=>hq.1⟩
 ·refine⟨_,cap,rfl,h3,h4,hf,fun _=>⟨g,rfl,h1,lt_of_block h2,fun i hi j hj=>?_⟩,fun x hx=>K.mono (h.lie x hx) fun k _ hq=>hq.1⟩
  have:i*K.z+j<xs.length*K.z:=by
   have:(i+1)*K.z≤xs.length*K.z:=Nat.mul_le_mul_right _ hi
   rw[Nat.succ_mul] at this
   omega
  rw[h.own.cellAt _ this]
  exact flatOf_get K.len xs i hi j hj
theorem row_after{α β:Type}{K:Elt α β}{R D N i:Nat}{e:TypeId}{w w4 w6:World}{xs:List β}{v:Value}{l:List Value}{ob:Obj}(hB:Blk w4 N (l++[v]))(hl:l.length=i)(h:InL K R D e w xs v w4)(hN:N<D)(hg:(w4.alloc ob).grownBy w6 v.ownBlock):w6.cell? ⟨N,i,none⟩=some v∧w6.frozen? ⟨N,i,none⟩=false∧N<w6.heap.size:=by
 have hlt:=hB.2.2
 have k1:w6.heap[N]?=w4.heap[N]?:=(hg.block N (by simp;omega) fun e=>by have:=(h.own.lt N e.symm).1;omega).trans (Below.heap_alloc _ _ _ hlt)
 have hz:=hg.size
 have hs:(w4.alloc ob).heap.size=w4.heap.size+1:=by simp
 exact⟨(World.cell?_of_block (a:=⟨N,i,none⟩) k1).trans (hB.get i (by rw[List.getElem?_append_right (by omega),hl,Nat.sub_self];rfl)),(World.frozen?_of_block (a:=⟨N,i,none⟩) k1).trans (hB.2.1 i),by omega⟩
theorem row_next{α β:Type}{K:Elt α β}{W0:World}{R D N i op:Nat}{e:TypeId}{ts:List Tok}{w w0 w4 w6:World}{xs:List β}{v:Value}{l:List Value}{ob:Obj}{x:β}(h:InL K R D e w xs v w4)(hB:Blk w4 N (l++[v]))(hl:l.length=i)(hN:w.heap.size≤N∧N<D∧R<D∧w0.heap.size≤N∧W0.heap.size≤N)(hk:KeepsB R w0 w4)(hr:RdAt W0 R ts op w4)(hD:D≤w4.heap.size)(hx:K.lies (fun k=>D≤k∧some k≠v.ownBlock) w4 x)(g cap:Nat)(hown:w6.ownsRow D e K.z (.slice (some ⟨g,0,none⟩) (xs.length+1) cap) (xs.length+1) (flatOf K.cells xs++K.cells x))(hgr:(w4.alloc ob).grownBy w6 v.ownBlock)(hat:v.ownBlock=some g∨g=(w4.alloc ob).heap.size) :
  InL K R D e w (xs++[x]) (.slice (some ⟨g,0,none⟩) (xs.length+1) cap) (w6.setCell ⟨N,i,none⟩ (.slice (some ⟨g,0,none⟩) (xs.length+1) cap))∧Blk (w6.setCell ⟨N,i,none⟩ (.slice (some ⟨g,0,none⟩) (xs.length+1) cap)) N (l++[.slice (some ⟨g,0,none⟩) (xs.length+1) cap])∧RdAt W0 R ts op (w6.setCell ⟨N,i,none⟩ (.slice (some ⟨g,0,none⟩) (xs.length+1) cap))∧D≤(w6.setCell ⟨N,i,none⟩ (.slice (some ⟨g,0,none⟩) (xs.length+1) cap)).heap.size∧KeepsB R w0 (w6.setCell ⟨N,i,none⟩ (.slice (some ⟨g,0,none⟩) (xs.length+1) cap))∧∀Q:Nat→Prop,(∀k,Q k→k≠N∧k<D)→KeepsQ Q w4 (w6.setCell ⟨N,i,none⟩ (.slice (some ⟨g,0,none⟩) (xs.length+1) cap)):=by
 obtain⟨n1,n2,n3,n4,n5⟩:=hN
 obtain⟨q1,q2,q3,q4⟩:=h.more x hx n3 (by omega) hD g cap hown hgr hat
 have hs:(w4.alloc ob).heap.size=w4.heap.size+1:=by simp
 have low:∀k,k<D→w6.heap[k]?=w4.heap[k]?:=fun k hk=>(hgr.block k (by omega) fun e=>by have:=(h.own.lt k e.symm).1;omega).trans (Below.heap_alloc _ _ _ (by omega))
 have hB6:=hB.block (low N n2) q2
 have hB7:=hB6.set (i:=i) (by rw[List.length_append,hl];simp) (.slice (some ⟨g,0,none⟩) (xs.length+1) cap)
 rw[List.set_append_right _ _ (by omega),hl,Nat.sub_self] at hB7
 have hk6:KeepsB R w0 w6:=⟨q3.os.trans (h.keeps.os.symm.trans hk.os),q3.tape.trans (h.keeps.tape.symm.trans hk.tape),q3.output.trans (h.keeps.output.symm.trans hk.output),Nat.le_trans hk.size q2,fun k h1 h2=>(low k (by omega)).trans (hk.block k h1 h2)⟩
 refine⟨inL_set q1 n2 n1 _,hB7,?_,by simp;omega,hk6.new n4,fun Q hQ=>?_⟩
 ·have hr6:RdAt W0 R ts op w6:=hr.same ⟨hk6.os.trans (hk.os.symm.trans hr.keeps.os),hk6.tape.trans (hk.tape.symm.trans hr.keeps.tape),hk6.output.trans (hk.output.symm.trans hr.keeps.output),Nat.le_trans hr.keeps.size q2,fun k h1 h2=>(low k (by omega)).trans (hr.keeps.block k h1 h2)⟩ q4
  exact hr6.other n5
 ·exact KeepsQ.trans ⟨q2,fun k h1 _=>low k (hQ k h1).2⟩ (KeepsQ.set fun h=>(hQ N h).1 rfl)
theorem Tryz.infoEqL:(Tryz.prog.info? 64).map (fun i=>(i.zero,i.size,i.bytes))=some (some (.agg #[.slice none 0 0,.int .i64 0,.int .u8 0,.int .i64 0,.string ⟨#[]⟩,.int .i64 0,.int .i64 0,.slice none 0 0]),8,104):=by kernel_rfl
theorem eqn_one'(q:Eqn):∀u∈eltQ.cells q,u.oneCell'=true:=by
 obtain⟨na,nc,ns,pq,⟨kd,pl,nm,it,dn,a,c,l⟩⟩:=q
 intro u hu
 have hu:u∈Eqn.cells ⟨na,nc,ns,pq,⟨kd,pl,nm,it,dn,a,c,l⟩⟩:=hu
 simp only[Eqn.cells,Ex.cells,List.mem_cons,List.not_mem_nil,or_false] at hu
 rcases hu with rfl|rfl|rfl|rfl|rfl|rfl|rfl|rfl<;>rfl
theorem takeA{P:Program}{md:Region.Mode}{ops:Array Oper}{Q:Exit→Act→World→Prop}{i d:Nat}{oi:Oper}{v:Value}{fuel:Nat}{listed:Array Bool}{a:Act}{w:World}(hi:ops[i]?=some oi)(hd:oi.dst=some d)(hs:Region.noSelect ops=true)(hf:Region.free md ops listed i=true)(hr:(Region.ready md ops listed).contains i=true)(hQ:∀c a w,Q (.panic c) (a.put oi.dst v) w→Q (.panic c) a w)(hy:Yields P ops oi v a)(h:wpAny P md ops Q fuel (listed.setIfInBounds i true) (a.put (some d) v) w):wpAny P md ops Q (fuel+1) listed a w:=wpAny_take hi hs hf hr hQ hy (by rw[hd];exact h)
attribute [local go_sem] tk_f0 tk_f1 tk_f2 tk_f3
set_option maxRecDepth 100000 in
set_option maxHeartbeats 12800000 in
theorem node_rd{W0:World}{R:Nat}(n op:Nat)(t t':Tok)(r:List Tok)(w:World)(hE:Ends (t::t'::r))(hE2:Ends (t'::r))(hrd:RdAt W0 R (t::t'::r) op w)(res:PR Nd)(hres:res=nodeT n op (t::t'::r))(hns:∀k,res≠.error (k,0)) :
  Calls Tryz.prog 58 #[rp R] w (Post W0 R op w res (IsNd w.heap.size)):=by
 obtain⟨w0,hw0⟩:∃w0:World,w0=w.alloc (.cells #[.bool false,.string ⟨#[]⟩,.int .i64 0,.slice none 0 0,.slice none 0 0,.slice none 0 0,.slice none 0 0] 60):=⟨_,rfl⟩
 have hb0:Below w.heap.size w w0:=by rw[hw0];exact bal _
 have HS0:Hid (w0.heap.size=w.heap.size+1):=by rw[Hid,hw0];simp
 have HO0:Hid (Blk w0 w.heap.size [.bool false,.string ⟨#[]⟩,.int .i64 0,.slice none 0 0,.slice none 0 0,.slice none 0 0,.slice none 0 0]):=by rw[Hid,hw0];exact Blk.made w _ _
 have HW0:=hid hw0.symm
 have HB0:=hid hb0
 have HRd:Hid (W0.heap.size≤w.heap.size∧R<w.heap.size):=⟨hrd.keeps.size,hrd.lt⟩
 have HneR:Hid (w.heap.size≠R):=by have:=hrd.lt;rw[Hid];omega
 have HE:=hid hE
 have HR0:=hid (hrd.below hb0)
 have HK0:Hid (KeepsB R w0 w0):=KeepsB.refl _ _
 clear hw0 hb0
 have HNs:=hid hns
 have HFine:Hid t.fine:=hE.fine
 have HE2:=hid hE2
 have HRes:=hid hres
 have CT:=take_rd HR0.out
 clear hE hE2 hrd hres hns
 simp only[rp,tkVal,tkCells] at CT ⊢
 go_enter Tryz.func58,Tryz.ntmps58
 go_wp2_with fail
 rw[HW0.out]
 refine CT.mono ?_
 rintro x w1 ⟨rfl,hr1,hk1⟩
 obtain⟨w2,hw2⟩:=nw (w1.alloc (.cells #[.int .u8 t.kind,.string t.text,.int .i64 t.int,.int .i64 t.place] 72))
 obtain⟨A,hA⟩:=nw (w1.heap.size)
 have hb2:Below w1.heap.size w1 w2:=by rw[hw2];exact bal _
 have HR2:=hid (hr1.below hb2)
 have HK2:=hid (hk1.trans (KeepsB.ofBelow hb2))
 have HBA:Hid (w.heap.size<A∧A≠R∧A<w2.heap.size):=by
  have h1:=HRd.out
  have h2:=hk1.size
  have h3:=HS0.out
  have h4:w2.heap.size=w1.heap.size+1:=by rw[hw2];simp
  exact⟨by omega,by omega,by omega⟩
 have HDA:Hid (Blk w2 A [.int .u8 t.kind,.string t.text,.int .i64 t.int,.int .i64 t.place]):=by rw[Hid,hw2,hA];exact Blk.made w1 _ _
 have HW2:=hid hw2.symm
 have a1:=HDA.out.get 1 rfl
 have a3:=HDA.out.get 3 rfl
 have hlA:=HBA.out.2.2
 clear CT hr1 hk1 hb2 hw2
 have HNm:Hid (∀W,Below w2.heap.size w2 W→Calls Tryz.prog 92 #[.pointer (some ⟨R,0,none⟩)] W (Post W0 R op W (nameT (t'::r)) (IsS W.heap.size))):=fun W hb=>name_all HE2.out (HR2.out.below hb)
 cases hpp:nameT (t'::r) with
 | error er =>
  obtain⟨kk,ee⟩:=er
  rw[hpp] at HNm
  have HResE:Hid (res=.error (kk,ee)):=by rw[Hid,HRes.out,nodeT,List.tail_cons,hpp];rfl
  clear hpp
  go_wp2_with fail
  rw[HW2.out]
  simp only[←hA]
  clear hA
  have HB1:Hid (Below w2.heap.size w2 w2.drew):=⟨rfl,rfl,rfl,Nat.le_refl _,fun _ _=>rfl⟩
  have HB2:Hid (Below w2.heap.size w2 (w2.alloc (.cells #[.bool false,.string ⟨#[]⟩,.int .i64 0,.slice none 0 0,.slice none 0 0,.slice none 0 0,.slice none 0 0] 60)).drew):=by
   have hX:Below w2.heap.size w2 (w2.alloc (.cells #[.bool false,.string ⟨#[]⟩,.int .i64 0,.slice none 0 0,.slice none 0 0,.slice none 0 0,.slice none 0 0] 60)):=bal _
   exact⟨hX.os,hX.tape,hX.output,hX.size,hX.block⟩
  have HPan:Hid (∀(W w4:World)(t4:List Tok),Below w2.heap.size w2 W→KeepsB R W w4→RdAt W0 R t4 op w4→Post W0 R op w res (IsNd w.heap.size) (.panicked [{ v:=badVal kk ee,recovered:=false }]) w4):=fun W w4 t4 h1 h2 h3=>by
   rw[HResE.out]
   exact⟨(KeepsB.ofBelow HB0.out).trans (HK2.out.trans ((KeepsB.ofBelow h1).trans h2)),rfl,t4,h3⟩
  have HKp:Hid (∀W,Below w2.heap.size w2 W→W.cell? ⟨A,1,none⟩=some (.string t.text)∧W.cell? ⟨A,3,none⟩=some (.int .i64 t.place)):=fun W hb=>⟨(hb.cell (p:=⟨A,1,none⟩) HBA.out.2.2).trans (HDA.out.get 1 rfl),(hb.cell (p:=⟨A,3,none⟩) HBA.out.2.2).trans (HDA.out.get 3 rfl)⟩
  refine wp_region_held_drew (S:=fun w'=>w'.cell? ⟨A,1,none⟩=some (.string t.text)∧w'.cell? ⟨A,3,none⟩=some (.int .i64 t.place)) (by kernel_rfl) (HKp.out _ HB1.out) (fun hS=>?_)
  change wpAnyH _ _ _ _ _ _ _ _ w2.drew
  refine takeR (i:=0) (v:=?_) rfl rfl (by kernel_rfl) (by kernel_rfl) (by kernel_rfl) (fun _ _ _ h=>h) (Or.inl ⟨by rfl,?_⟩) (by assumption) ?_
  rotate_left
  ·intro w hSw;(try dsimp only at hSw);first|(go_simp;done)|(go_simp;with_reducible rfl)
  try simp only[Act.put,List.setIfInBounds_toArray,List.set_cons_zero,List.set_cons_succ]
  refine takeR (i:=1) (v:=?_) rfl rfl (by kernel_rfl) (by kernel_rfl) (by kernel_rfl) (fun _ _ _ h=>h) (Or.inl ⟨by rfl,?_⟩) (by assumption) ?_
  rotate_left
  ·intro w hSw;(try dsimp only at hSw);first|(go_simp;done)|(go_simp;with_reducible rfl)
  try simp only[Act.put,List.setIfInBounds_toArray,List.set_cons_zero,List.set_cons_succ]
  refine takeR (i:=2) (v:=?_) rfl rfl (by kernel_rfl) (by kernel_rfl) (by kernel_rfl) (fun _ _ _ h=>h) (Or.inl ⟨by rfl,?_⟩) (by assumption) ?_
  rotate_left
  ·intro w hSw;(try dsimp only at hSw);first|(go_simp;done)|(go_simp;with_reducible rfl)
  try simp only[Act.put,List.setIfInBounds_toArray,List.set_cons_zero,List.set_cons_succ]
  refine takeR (i:=3) (v:=?_) rfl rfl (by kernel_rfl) (by kernel_rfl) (by kernel_rfl) (fun _ _ _ h=>h) (Or.inl ⟨by rfl,?_⟩) (by assumption) ?_
  rotate_left
  ·intro w hSw;(try dsimp only at hSw);first|(go_simp;done)|(go_simp;with_reducible rfl)
  try simp only[Act.put,List.setIfInBounds_toArray,List.set_cons_zero,List.set_cons_succ]
  refine takeR (i:=4) (v:=?_) rfl rfl (by kernel_rfl) (by kernel_rfl) (by kernel_rfl) (fun _ _ _ h=>h) (Or.inl ⟨by rfl,?_⟩) (by assumption) ?_
  rotate_left
  ·intro w hSw;(try dsimp only at hSw);first|(go_simp;done)|(go_simp;with_reducible rfl)
  try simp only[Act.put,List.setIfInBounds_toArray,List.set_cons_zero,List.set_cons_succ]
  refine takeR (i:=5) (v:=?_) rfl rfl (by kernel_rfl) (by kernel_rfl) (by kernel_rfl) (fun _ _ _ h=>h) (Or.inl ⟨by rfl,?_⟩) (by assumption) ?_
  rotate_left
  ·intro w hSw;(try dsimp only at hSw);first|(go_simp;done)|(go_simp;with_reducible rfl)
  try simp only[Act.put,List.setIfInBounds_toArray,List.set_cons_zero,List.set_cons_succ]
  refine wpAnyH_ready (rs:=[6,8]) (by kernel_rfl) (by simp) ?_
  refine AllReadyH.cons rfl (fun K hK=>?_) ?_
  ·go_simp
   refine(HNm.out w2.drew HB1.out).mono ?_
   rintro x w4 ⟨hk4,rfl,t4,hr4⟩
   exact⟨rfl,HPan.out _ w4 t4 HB1.out hk4 hr4⟩
  ·refine AllReadyH.cons rfl (fun K hK=>?_) AllReadyH.nil
   go_simp
   refine hK.out _ _ (HKp.out _ HB2.out) (fun hS2=>?_)
   clear hK K
   refine wpAnyH_ready (rs:=[6]) (by kernel_rfl) (by simp) ?_
   refine AllReadyH.cons rfl (fun K hK=>?_) AllReadyH.nil
   go_simp
   refine(HNm.out _ HB2.out).mono ?_
   rintro x w4 ⟨hk4,rfl,t4,hr4⟩
   exact⟨rfl,HPan.out _ w4 t4 HB2.out hk4 hr4⟩
 | ok pr =>
  obtain⟨s,t1⟩:=pr
  rw[hpp] at HNm
  have HRes1:Hid (res=(paramsT (inOf (isFlow t)) n t1).then fun i t2=>(wantT ⟨#[114,101,116,117,114,110,115]⟩ t2).then fun _ t3=>(paramsT (outOf' (isFlow t)) n t3).then fun o t4=>(varsT n t4).then fun v t5=>(wantT ⟨#[108,101,116]⟩ t5).then fun _ t6=>(eqsL n op n [] t6).then fun q t7=>.ok ((⟨isFlow t,s,t.place,none,0,i,none,0,o,none,0,v,none,0,q⟩:Nd),t7)):=by rw[Hid,HRes.out,nodeT,List.tail_cons,hpp];rfl
  have HB1:Hid (Below w2.heap.size w2 w2.drew):=⟨rfl,rfl,rfl,Nat.le_refl _,fun _ _=>rfl⟩
  obtain⟨wz,hwz⟩:∃wz:World,wz=(w2.alloc (.cells #[.bool false,.string ⟨#[]⟩,.int .i64 0,.slice none 0 0,.slice none 0 0,.slice none 0 0,.slice none 0 0] 60)).drew:=⟨_,rfl⟩
  have HB2:Hid (Below w2.heap.size w2 wz):=by
   rw[Hid,hwz]
   have hX:Below w2.heap.size w2 (w2.alloc (.cells #[.bool false,.string ⟨#[]⟩,.int .i64 0,.slice none 0 0,.slice none 0 0,.slice none 0 0,.slice none 0 0] 60)):=bal _
   exact⟨hX.os,hX.tape,hX.output,hX.size,hX.block⟩
  have HDz:Hid (Blk wz w2.heap.size [.bool false,.string ⟨#[]⟩,.int .i64 0,.slice none 0 0,.slice none 0 0,.slice none 0 0,.slice none 0 0]):=by
   rw[Hid,hwz]
   have hX:Blk (w2.alloc (.cells #[.bool false,.string ⟨#[]⟩,.int .i64 0,.slice none 0 0,.slice none 0 0,.slice none 0 0,.slice none 0 0] 60)) w2.heap.size [.bool false,.string ⟨#[]⟩,.int .i64 0,.slice none 0 0,.slice none 0 0,.slice none 0 0,.slice none 0 0]:=Blk.made w2 _ _
   exact⟨fun j hj=>hX.1 j hj,fun j=>hX.2.1 j,hX.2.2⟩
  have HWz:=hid hwz.symm
  have HKp:Hid (∀W,KeepsB R w2 W→W.cell? ⟨A,1,none⟩=some (.string t.text)∧W.cell? ⟨A,3,none⟩=some (.int .i64 t.place)):=fun W hb=>⟨(hb.cell HBA.out.2.2 HBA.out.2.1).1.trans (HDA.out.get 1 rfl),(hb.cell HBA.out.2.2 HBA.out.2.1).1.trans (HDA.out.get 3 rfl)⟩
  have HwA:Hid (w.heap.size<w2.heap.size∧R<w2.heap.size):=by have h1:=HBA.out;have h2:=HRd.out;exact⟨by omega,by omega⟩
  clear hpp HRes hwz
  go_wp2_with fail
  rw[HW2.out]
  simp only[←hA]
  clear hA HW2
  go_cut [4] (fun p wc=>∃N,p=.pointer (some ⟨N,0,none⟩)∧Hid (Blk wc N [.bool (t.text.toList==[102,108,111,119]),.string s,.int .i64 t.place,.slice none 0 0,.slice none 0 0,.slice none 0 0,.slice none 0 0])∧Hid (RdAt W0 R t1 op wc∧Ends t1)∧Hid (KeepsB R w0 wc)∧Hid (w.heap.size<N∧N≠R)∧Hid (s.size≤1000000))
  case first =>
   refine wp_region_held_drew (S:=fun w'=>w'.cell? ⟨A,1,none⟩=some (.string t.text)∧w'.cell? ⟨A,3,none⟩=some (.int .i64 t.place)) (by kernel_rfl) (HKp.out _ (KeepsB.ofBelow HB1.out)) (fun hS=>?_)
   change wpAnyH _ _ _ _ _ _ _ _ w2.drew
   refine takeR (i:=0) (v:=?_) rfl rfl (by kernel_rfl) (by kernel_rfl) (by kernel_rfl) (fun _ _ _ h=>h) (Or.inl ⟨by rfl,?_⟩) (by assumption) ?_
   rotate_left
   ·intro w hSw;(try dsimp only at hSw);first|(go_simp;done)|(go_simp;with_reducible rfl)
   try simp only[Act.put,List.setIfInBounds_toArray,List.set_cons_zero,List.set_cons_succ]
   refine takeR (i:=1) (v:=?_) rfl rfl (by kernel_rfl) (by kernel_rfl) (by kernel_rfl) (fun _ _ _ h=>h) (Or.inl ⟨by rfl,?_⟩) (by assumption) ?_
   rotate_left
   ·intro w hSw;(try dsimp only at hSw);first|(go_simp;done)|(go_simp;with_reducible rfl)
   try simp only[Act.put,List.setIfInBounds_toArray,List.set_cons_zero,List.set_cons_succ]
   refine takeR (i:=2) (v:=?_) rfl rfl (by kernel_rfl) (by kernel_rfl) (by kernel_rfl) (fun _ _ _ h=>h) (Or.inl ⟨by rfl,?_⟩) (by assumption) ?_
   rotate_left
   ·intro w hSw;(try dsimp only at hSw);first|(go_simp;done)|(go_simp;with_reducible rfl)
   try simp only[Act.put,List.setIfInBounds_toArray,List.set_cons_zero,List.set_cons_succ]
   refine takeR (i:=3) (v:=?_) rfl rfl (by kernel_rfl) (by kernel_rfl) (by kernel_rfl) (fun _ _ _ h=>h) (Or.inl ⟨by rfl,?_⟩) (by assumption) ?_
   rotate_left
   ·intro w hSw;(try dsimp only at hSw);first|(go_simp;done)|(go_simp;with_reducible rfl)
   try simp only[Act.put,List.setIfInBounds_toArray,List.set_cons_zero,List.set_cons_succ]
   refine takeR (i:=4) (v:=?_) rfl rfl (by kernel_rfl) (by kernel_rfl) (by kernel_rfl) (fun _ _ _ h=>h) (Or.inl ⟨by rfl,?_⟩) (by assumption) ?_
   rotate_left
   ·intro w hSw;(try dsimp only at hSw);first|(go_simp;done)|(go_simp;with_reducible rfl)
   try simp only[Act.put,List.setIfInBounds_toArray,List.set_cons_zero,List.set_cons_succ]
   refine takeR (i:=5) (v:=?_) rfl rfl (by kernel_rfl) (by kernel_rfl) (by kernel_rfl) (fun _ _ _ h=>h) (Or.inl ⟨by rfl,?_⟩) (by assumption) ?_
   rotate_left
   ·intro w hSw;(try dsimp only at hSw);first|(go_simp;done)|(go_simp;with_reducible rfl)
   try simp only[Act.put,List.setIfInBounds_toArray,List.set_cons_zero,List.set_cons_succ]
   refine wpAnyH_ready (rs:=[6,8]) (by kernel_rfl) (by simp) ?_
   refine AllReadyH.cons rfl (fun K hK=>?_) ?_
   ·go_simp
    refine(HNm.out w2.drew HB1.out).mono ?_
    rintro x w4 ⟨hk4,⟨v,rfl,rfl,hsz⟩,hr4,hE4⟩
    have HK4:=hid ((KeepsB.ofBelow HB1.out).trans hk4)
    have HR4:Hid (RdAt W0 R t1 op w4∧Ends t1):=⟨hr4,hE4⟩
    have HSz:=hid hsz
    clear hk4 hr4 hE4 hsz
    refine hK.out _ _ (HKp.out _ HK4.out) (fun hS4=>?_)
    clear hK K
    try simp only[Act.put,List.setIfInBounds_toArray,List.set_cons_zero,List.set_cons_succ]
    refine takeR (i:=7) (v:=?_) rfl rfl (by kernel_rfl) (by kernel_rfl) (by kernel_rfl) (fun _ _ _ h=>h) (Or.inl ⟨by rfl,?_⟩) (by assumption) ?_
    rotate_left
    ·intro w hSw;(try dsimp only at hSw);first|(go_simp;done)|(go_simp;with_reducible rfl)
    try simp only[Act.put,List.setIfInBounds_toArray,List.set_cons_zero,List.set_cons_succ]
    refine wpAnyH_ready (rs:=[8]) (by kernel_rfl) (by simp) ?_
    refine AllReadyH.cons rfl (fun K hK=>?_) AllReadyH.nil
    go_simp
    obtain⟨w5,hw5⟩:∃w5:World,w5=w4.alloc (.cells #[.bool false,.string ⟨#[]⟩,.int .i64 0,.slice none 0 0,.slice none 0 0,.slice none 0 0,.slice none 0 0] 60):=⟨_,rfl⟩
    obtain⟨N,hN⟩:=nw (w4.heap.size)
    have hb5:Below w4.heap.size w4 w5:=by rw[hw5];exact bal _
    have HK5:=hid (HK4.out.trans (KeepsB.ofBelow hb5))
    have HR5:=hid (HR4.out.1.below hb5)
    have HD5:Hid (Blk w5 N [.bool false,.string ⟨#[]⟩,.int .i64 0,.slice none 0 0,.slice none 0 0,.slice none 0 0,.slice none 0 0]):=by rw[Hid,hw5,hN];exact Blk.made w4 _ _
    have HN5:Hid (w2.heap.size≤N):=by rw[Hid,hN];exact HK4.out.size
    rw[←hw5,←hN]
    clear hb5 hw5 hN
    refine hK.out _ _ (HKp.out _ HK5.out) (fun hS5=>?_)
    clear hK K
    try simp only[Act.put,List.setIfInBounds_toArray,List.set_cons_zero,List.set_cons_succ]
    refine wpAnyH_ready (rs:=[9]) (by kernel_rfl) (by simp) ?_
    refine AllReadyH.cons rfl (fun K hK=>?_) AllReadyH.nil
    obtain⟨w6,hw6⟩:=nw (setFrom w5 N 0 [.bool (t.text.toList==[102,108,111,119]),.string s,.int .i64 t.place,.slice none 0 0,.slice none 0 0,.slice none 0 0,.slice none 0 0])
    have HD6:Hid (Blk w6 N [.bool (t.text.toList==[102,108,111,119]),.string s,.int .i64 t.place,.slice none 0 0,.slice none 0 0,.slice none 0 0,.slice none 0 0]):=by rw[Hid,hw6];exact HD5.out.all _ rfl
    have HR6:Hid (RdAt W0 R t1 op w6):=by rw[Hid,hw6];exact setFrom_rd HR5.out (by have:=HRd.out;have:=HwA.out;have:=HN5.out;omega) _ _
    have HK6:Hid (KeepsB R w2 w6):=by rw[Hid,hw6];exact setFrom_keepsB HK5.out HN5.out _ _
    have HW6:Hid ((((((((w5.setCell ⟨N,0,none⟩ (.bool (t.text.toList==[102,108,111,119]))).setCell ⟨N,1,none⟩ (.string s)).setCell ⟨N,2,none⟩ (.int .i64 t.place)).setCell ⟨N,3,none⟩ (.slice none 0 0)).setCell ⟨N,4,none⟩ (.slice none 0 0)).setCell ⟨N,5,none⟩ (.slice none 0 0)).setCell ⟨N,6,none⟩ (.slice none 0 0))=w6):=by rw[Hid,hw6];rfl
    have y0:=HD5.out.get 0 rfl
    have y1:=HD5.out.get 1 rfl
    have y2:=HD5.out.get 2 rfl
    have y3:=HD5.out.get 3 rfl
    have y4:=HD5.out.get 4 rfl
    have y5:=HD5.out.get 5 rfl
    have y6:=HD5.out.get 6 rfl
    have x0:=HD5.out.2.1 0
    have x1:=HD5.out.2.1 1
    have x2:=HD5.out.2.1 2
    have x3:=HD5.out.2.1 3
    have x4:=HD5.out.2.1 4
    have x5:=HD5.out.2.1 5
    have x6:=HD5.out.2.1 6
    have hlN:=HD5.out.2.2
    clear hw6
    go_simp
    rw[HW6.out]
    refine hK.out _ _ (HKp.out _ HK6.out) (fun hS6=>?_)
    clear hK K
    refine wpAnyH_done (by kernel_rfl) ?_ _
    go_wp2_with fail
    go_meet
    exact⟨N,rfl,HD6,⟨HR6.out,HR4.out.2⟩,HK2.out.trans HK6.out,by have h1:=HN5.out;have h2:=HwA.out;exact⟨by omega,by omega⟩,HSz⟩
   ·refine AllReadyH.cons rfl (fun K hK=>?_) AllReadyH.nil
    go_simp
    rw[HWz.out]
    refine hK.out _ _ (HKp.out _ (KeepsB.ofBelow HB2.out)) (fun hS2=>?_)
    clear hK K
    try simp only[Act.put,List.setIfInBounds_toArray,List.set_cons_zero,List.set_cons_succ]
    refine wpAnyH_ready (rs:=[6]) (by kernel_rfl) (by simp) ?_
    refine AllReadyH.cons rfl (fun K hK=>?_) AllReadyH.nil
    go_simp
    refine(HNm.out _ HB2.out).mono ?_
    rintro x w4 ⟨hk4,⟨v,rfl,rfl,hsz⟩,hr4,hE4⟩
    have HKz:=hid hk4
    have HK4:=hid ((KeepsB.ofBelow HB2.out).trans hk4)
    have HR4:Hid (RdAt W0 R t1 op w4∧Ends t1):=⟨hr4,hE4⟩
    have HSz:=hid hsz
    clear hk4 hr4 hE4 hsz
    refine hK.out _ _ (HKp.out _ HK4.out) (fun hS4=>?_)
    clear hK K
    try simp only[Act.put,List.setIfInBounds_toArray,List.set_cons_zero,List.set_cons_succ]
    refine takeR (i:=7) (v:=?_) rfl rfl (by kernel_rfl) (by kernel_rfl) (by kernel_rfl) (fun _ _ _ h=>h) (Or.inl ⟨by rfl,?_⟩) (by assumption) ?_
    rotate_left
    ·intro w hSw;(try dsimp only at hSw);first|(go_simp;done)|(go_simp;with_reducible rfl)
    try simp only[Act.put,List.setIfInBounds_toArray,List.set_cons_zero,List.set_cons_succ]
    obtain⟨w5,hw5⟩:=nw (w4)
    obtain⟨N,hN⟩:=nw (w2.heap.size)
    have HK5:Hid (KeepsB R w2 w5):=by rw[hw5];exact HK4.out
    have HR5:Hid (RdAt W0 R t1 op w5):=by rw[hw5];exact HR4.out.1
    have HD5:Hid (Blk w5 N [.bool false,.string ⟨#[]⟩,.int .i64 0,.slice none 0 0,.slice none 0 0,.slice none 0 0,.slice none 0 0]):=by rw[Hid,hw5,hN];exact HDz.out.keep HKz.out (by have:=HwA.out;omega)
    have HN5:Hid (w2.heap.size≤N):=by rw[Hid,hN];exact Nat.le_refl _
    simp only[←hw5,←hN]
    clear hw5 hN
    refine wpAnyH_ready (rs:=[9]) (by kernel_rfl) (by simp) ?_
    refine AllReadyH.cons rfl (fun K hK=>?_) AllReadyH.nil
    obtain⟨w6,hw6⟩:=nw (setFrom w5 N 0 [.bool (t.text.toList==[102,108,111,119]),.string s,.int .i64 t.place,.slice none 0 0,.slice none 0 0,.slice none 0 0,.slice none 0 0])
    have HD6:Hid (Blk w6 N [.bool (t.text.toList==[102,108,111,119]),.string s,.int .i64 t.place,.slice none 0 0,.slice none 0 0,.slice none 0 0,.slice none 0 0]):=by rw[Hid,hw6];exact HD5.out.all _ rfl
    have HR6:Hid (RdAt W0 R t1 op w6):=by rw[Hid,hw6];exact setFrom_rd HR5.out (by have:=HRd.out;have:=HwA.out;have:=HN5.out;omega) _ _
    have HK6:Hid (KeepsB R w2 w6):=by rw[Hid,hw6];exact setFrom_keepsB HK5.out HN5.out _ _
    have HW6:Hid ((((((((w5.setCell ⟨N,0,none⟩ (.bool (t.text.toList==[102,108,111,119]))).setCell ⟨N,1,none⟩ (.string s)).setCell ⟨N,2,none⟩ (.int .i64 t.place)).setCell ⟨N,3,none⟩ (.slice none 0 0)).setCell ⟨N,4,none⟩ (.slice none 0 0)).setCell ⟨N,5,none⟩ (.slice none 0 0)).setCell ⟨N,6,none⟩ (.slice none 0 0))=w6):=by rw[Hid,hw6];rfl
    have y0:=HD5.out.get 0 rfl
    have y1:=HD5.out.get 1 rfl
    have y2:=HD5.out.get 2 rfl
    have y3:=HD5.out.get 3 rfl
    have y4:=HD5.out.get 4 rfl
    have y5:=HD5.out.get 5 rfl
    have y6:=HD5.out.get 6 rfl
    have x0:=HD5.out.2.1 0
    have x1:=HD5.out.2.1 1
    have x2:=HD5.out.2.1 2
    have x3:=HD5.out.2.1 3
    have x4:=HD5.out.2.1 4
    have x5:=HD5.out.2.1 5
    have x6:=HD5.out.2.1 6
    have hlN:=HD5.out.2.2
    clear hw6
    go_simp
    rw[HW6.out]
    refine hK.out _ _ (HKp.out _ HK6.out) (fun hS6=>?_)
    clear hK K
    refine wpAnyH_done (by kernel_rfl) ?_ _
    go_wp2_with fail
    go_meet
    exact⟨N,rfl,HD6,⟨HR6.out,HR4.out.2⟩,HK2.out.trans HK6.out,by have h1:=HN5.out;have h2:=HwA.out;exact⟨by omega,by omega⟩,HSz⟩
  case rest =>
   obtain⟨N,rfl,HD,HRE,HKc,HNb,HSz⟩:=hcut
   have HFs:Hid ((t.text.toList==[102,108,111,119])=isFlow t):=flow_same t.text
   have HDc:Hid (Blk wc N [.bool (isFlow t),.string s,.int .i64 t.place,.slice none 0 0,.slice none 0 0,.slice none 0 0,.slice none 0 0]):=by rw[Hid,←HFs.out];exact HD.out
   have HRc:=hid (HRE.out.1)
   have HEc:=hid (HRE.out.2)
   clear HD HRE HFs a1 a3 hlA HDz HWz HB1 HB2
   cases hf:isFlow t with
   | true =>
    rw[hf] at HDc HRes1
    clear hf
    have HResc:Hid (res=(paramsT inT n t1).then fun ins t2=>(wantT ⟨#[114,101,116,117,114,110,115]⟩ t2).then fun _ t3=>(paramsT outT n t3).then fun outs t4=>(varsT n t4).then fun vars t5=>(wantT ⟨#[108,101,116]⟩ t5).then fun _ t6=>(eqsL n op n [] t6).then fun q t7=>.ok ((⟨true,s,t.place,none,0,ins,none,0,outs,none,0,vars,none,0,q⟩:Nd),t7)):=by rw[Hid,HRes1.out,inOf_true,outOf_true]
    clear HRes1
    have b0:=HDc.out.get 0 rfl
    have Ci:=params_rd 94 (enters_of Tryz.func94 (by kernel_rfl) rfl) inT (fun op ts w h1 h2 _=>in_rd h1 h2) in_shr n op t1 wc HEc.out HRc.out _ rfl (fun k h=>HNs.out k (by rw[HResc.out,h];rfl))
    generalize paramsT inT n t1=qi at Ci HResc
    simp only[rp] at Ci
    go_wp2_with fail
    refine Ci.mono ?_
    rintro x x1 ⟨hk,hp⟩
    have HKE:=hid (HKc.out.trans hk)
    have HSi:=hid hk
    clear Ci hk
    cases qi with
    | error er =>
     obtain⟨kk,ee⟩:=er
     obtain⟨rfl,t2,hr2⟩:=hp
     have HRE:Hid _:=hr2
     have HResE:Hid (res=.error (kk,ee)):=HResc.out
     clear hr2
     go_wp2_with fail
     rw[HResE.out]
     exact⟨rfl,(KeepsB.ofBelow HB0.out).trans HKE.out,rfl,t2,HRE.out⟩
    | ok pr =>
     obtain⟨li,ti⟩:=pr
     obtain⟨⟨v,rfl,hv⟩,hr9,hE9⟩:=hp
     obtain⟨ins,ia,ic,hmap,rfl,hrow⟩:=hv.rowQ
     obtain rfl:ins=li:=by rw[←hmap];exact(List.map_id ins).symm
     have HRx1:=hid hr9
     have HEx1:=hid hE9
     have HKx1:=hid (HKE.out)
     have HDx1:=hid (HDc.out.keep HSi.out HNb.out.2)
     have HQins:Hid (RowQ eltP (fun k=>w.heap.size<k∧k≠N) x1 ia ic ins):=hrow.mono fun k _ (hq:wc.heap.size≤k)=>by
      have h1:=HDc.out.2.2
      have h2:=HNb.out.1
      exact⟨by omega,by omega⟩
     have HResx1:Hid (res=(wantT ⟨#[114,101,116,117,114,110,115]⟩ ti).then fun _ t3=>(paramsT outT n t3).then fun outs t4=>(varsT n t4).then fun vars t5=>(wantT ⟨#[108,101,116]⟩ t5).then fun _ t6=>(eqsL n op n [] t6).then fun q t7=>.ok ((⟨true,s,t.place,none,0,ins,none,0,outs,none,0,vars,none,0,q⟩:Nd),t7)):=HResc.out
     clear HKE hr9 hE9 HResc hv hrow hmap
     obtain⟨x2,hw3⟩:=nw (x1.setCell ⟨N,3,none⟩ (.slice ia ins.length ic))
     have e3:=HDx1.out.get 3 rfl
     have k3:=HDx1.out.2.1 3
     have hlB:=HDx1.out.2.2
     have HDx2:Hid (Blk x2 N [.bool true,.string s,.int .i64 t.place,.slice ia ins.length ic,.slice none 0 0,.slice none 0 0,.slice none 0 0]):=by rw[Hid,hw3];exact HDx1.out.set (i:=3) (by simp) _
     have HRx2:Hid (RdAt W0 R ti op x2):=by rw[Hid,hw3];exact HRx1.out.other (by have:=HRd.out;have:=HNb.out;omega)
     have HKx2:Hid (KeepsB R w0 x2):=by rw[Hid,hw3];exact HKx1.out.new (by have:=HS0.out;have:=HNb.out;omega)
     have HWx2:=hid hw3.symm
     clear hw3
     have HQins:Hid (RowQ eltP (fun k=>w.heap.size<k∧k≠N) x2 ia ic ins):=by rw[Hid,←HWx2.out];exact HQins.out.keep (KeepsQ.set fun h=>h.2 rfl)
     obtain⟨ur,rr,hr⟩:=HEx1.out.ne
     have Cr:=want_all ⟨#[114,101,116,117,114,110,115]⟩ (by decide) (hr▸HRx2.out) (hr▸HEx1.out)
     rw[←hr] at Cr
     clear hr
     generalize wantT ⟨#[114,101,116,117,114,110,115]⟩ ti=qr at Cr HResx1
     simp only[rp] at Cr
     go_wp2_with fail
     rw[HWx2.out]
     clear e3 k3 hlB
     refine Cr.mono ?_
     rintro x x3 ⟨hk,hp⟩
     have HKE:=hid (HKx2.out.trans hk)
     have HSr:=hid hk
     clear Cr hk
     cases qr with
     | error er =>
      obtain⟨kk,ee⟩:=er
      obtain⟨rfl,t2,hr2⟩:=hp
      have HRE:Hid _:=hr2
      have HResE:Hid (res=.error (kk,ee)):=HResx1.out
      clear hr2
      go_wp2_with fail
      rw[HResE.out]
      exact⟨rfl,(KeepsB.ofBelow HB0.out).trans HKE.out,rfl,t2,HRE.out⟩
     | ok pr =>
      obtain⟨zr,tr⟩:=pr
      obtain⟨⟨v,rfl,rfl⟩,hr9,hE9⟩:=hp
      have HRx3:=hid hr9
      have HEx3:=hid hE9
      have HKx3:=hid (HKE.out)
      have HDx3:=hid (HDx2.out.keep HSr.out HNb.out.2)
      have HQins:Hid (RowQ eltP (fun k=>w.heap.size<k∧k≠N) x3 ia ic ins):=HQins.out.keep (KeepsQ.ofB HSr.out fun h=>by have:=HRd.out.2;omega)
      have HResx3:Hid (res=(paramsT outT n tr).then fun outs t4=>(varsT n t4).then fun vars t5=>(wantT ⟨#[108,101,116]⟩ t5).then fun _ t6=>(eqsL n op n [] t6).then fun q t7=>.ok ((⟨true,s,t.place,none,0,ins,none,0,outs,none,0,vars,none,0,q⟩:Nd),t7)):=HResx1.out
      clear HKE hr9 hE9 HResx1
      have Cw:=params_rd 95 (enters_of Tryz.func95 (by kernel_rfl) rfl) outT (fun op ts w h1 h2 _=>out_rd h1 h2) out_shr n op tr x3 HEx3.out HRx3.out _ rfl (fun k h=>HNs.out k (by rw[HResx3.out,h];rfl))
      generalize paramsT outT n tr=qw at Cw HResx3
      simp only[rp] at Cw
      go_wp2_with fail
      refine Cw.mono ?_
      rintro x x4 ⟨hk,hp⟩
      have HKE:=hid (HKx3.out.trans hk)
      have HSw:=hid hk
      clear Cw hk
      cases qw with
      | error er =>
       obtain⟨kk,ee⟩:=er
       obtain⟨rfl,t2,hr2⟩:=hp
       have HRE:Hid _:=hr2
       have HResE:Hid (res=.error (kk,ee)):=HResx3.out
       clear hr2
       go_wp2_with fail
       rw[HResE.out]
       exact⟨rfl,(KeepsB.ofBelow HB0.out).trans HKE.out,rfl,t2,HRE.out⟩
      | ok pr =>
       obtain⟨lw,tw⟩:=pr
       obtain⟨⟨v,rfl,hv⟩,hr9,hE9⟩:=hp
       obtain⟨outs,oa,oc,hmap,rfl,hrow⟩:=hv.rowQ
       obtain rfl:outs=lw:=by rw[←hmap];exact(List.map_id outs).symm
       have HRx4:=hid hr9
       have HEx4:=hid hE9
       have HKx4:=hid (HKE.out)
       have HDx4:=hid (HDx3.out.keep HSw.out HNb.out.2)
       have HQouts:Hid (RowQ eltP (fun k=>w.heap.size<k∧k≠N) x4 oa oc outs):=hrow.mono fun k _ (hq:x3.heap.size≤k)=>by
        have h1:=HDx3.out.2.2
        have h2:=HNb.out.1
        exact⟨by omega,by omega⟩
       have HQins:Hid (RowQ eltP (fun k=>w.heap.size<k∧k≠N) x4 ia ic ins):=HQins.out.keep (KeepsQ.ofB HSw.out fun h=>by have:=HRd.out.2;omega)
       have HResx4:Hid (res=(varsT n tw).then fun vars t5=>(wantT ⟨#[108,101,116]⟩ t5).then fun _ t6=>(eqsL n op n [] t6).then fun q t7=>.ok ((⟨true,s,t.place,none,0,ins,none,0,outs,none,0,vars,none,0,q⟩:Nd),t7)):=HResx3.out
       clear HKE hr9 hE9 HResx3 hv hrow hmap
       obtain⟨x5,hw3⟩:=nw (x4.setCell ⟨N,4,none⟩ (.slice oa outs.length oc))
       have e4:=HDx4.out.get 4 rfl
       have k4:=HDx4.out.2.1 4
       have hlB:=HDx4.out.2.2
       have HDx5:Hid (Blk x5 N [.bool true,.string s,.int .i64 t.place,.slice ia ins.length ic,.slice oa outs.length oc,.slice none 0 0,.slice none 0 0]):=by rw[Hid,hw3];exact HDx4.out.set (i:=4) (by simp) _
       have HRx5:Hid (RdAt W0 R tw op x5):=by rw[Hid,hw3];exact HRx4.out.other (by have:=HRd.out;have:=HNb.out;omega)
       have HKx5:Hid (KeepsB R w0 x5):=by rw[Hid,hw3];exact HKx4.out.new (by have:=HS0.out;have:=HNb.out;omega)
       have HWx5:=hid hw3.symm
       clear hw3
       have HQins:Hid (RowQ eltP (fun k=>w.heap.size<k∧k≠N) x5 ia ic ins):=by rw[Hid,←HWx5.out];exact HQins.out.keep (KeepsQ.set fun h=>h.2 rfl)
       have HQouts:Hid (RowQ eltP (fun k=>w.heap.size<k∧k≠N) x5 oa oc outs):=by rw[Hid,←HWx5.out];exact HQouts.out.keep (KeepsQ.set fun h=>h.2 rfl)
       have Cv:=vars_rd n op tw x5 HEx4.out HRx5.out _ rfl (fun k h=>HNs.out k (by rw[HResx4.out,h];rfl))
       generalize varsT n tw=qv at Cv HResx4
       simp only[rp] at Cv
       go_wp2_with fail
       rw[HWx5.out]
       clear e4 k4 hlB
       refine Cv.mono ?_
       rintro x x6 ⟨hk,hp⟩
       have HKE:=hid (HKx5.out.trans hk)
       have HSv:=hid hk
       clear Cv hk
       cases qv with
       | error er =>
        obtain⟨kk,ee⟩:=er
        obtain⟨rfl,t2,hr2⟩:=hp
        have HRE:Hid _:=hr2
        have HResE:Hid (res=.error (kk,ee)):=HResx4.out
        clear hr2
        go_wp2_with fail
        rw[HResE.out]
        exact⟨rfl,(KeepsB.ofBelow HB0.out).trans HKE.out,rfl,t2,HRE.out⟩
       | ok pr =>
        obtain⟨lv,tv⟩:=pr
        obtain⟨⟨v,rfl,hv⟩,hr9,hE9⟩:=hp
        obtain⟨vars,va,vc,hmap,rfl,hrow⟩:=hv.rowQ
        obtain rfl:vars=lv:=by rw[←hmap];exact(List.map_id vars).symm
        have HRx6:=hid hr9
        have HEx6:=hid hE9
        have HKx6:=hid (HKE.out)
        have HDx6:=hid (HDx5.out.keep HSv.out HNb.out.2)
        have HQvars:Hid (RowQ eltP (fun k=>w.heap.size<k∧k≠N) x6 va vc vars):=hrow.mono fun k _ (hq:x5.heap.size≤k)=>by
         have h1:=HDx5.out.2.2
         have h2:=HNb.out.1
         exact⟨by omega,by omega⟩
        have HQins:Hid (RowQ eltP (fun k=>w.heap.size<k∧k≠N) x6 ia ic ins):=HQins.out.keep (KeepsQ.ofB HSv.out fun h=>by have:=HRd.out.2;omega)
        have HQouts:Hid (RowQ eltP (fun k=>w.heap.size<k∧k≠N) x6 oa oc outs):=HQouts.out.keep (KeepsQ.ofB HSv.out fun h=>by have:=HRd.out.2;omega)
        have HResx6:Hid (res=(wantT ⟨#[108,101,116]⟩ tv).then fun _ t6=>(eqsL n op n [] t6).then fun q t7=>.ok ((⟨true,s,t.place,none,0,ins,none,0,outs,none,0,vars,none,0,q⟩:Nd),t7)):=HResx4.out
        clear HKE hr9 hE9 HResx4 hv hrow hmap
        obtain⟨x7,hw3⟩:=nw (x6.setCell ⟨N,5,none⟩ (.slice va vars.length vc))
        have e5:=HDx6.out.get 5 rfl
        have k5:=HDx6.out.2.1 5
        have hlB:=HDx6.out.2.2
        have HDx7:Hid (Blk x7 N [.bool true,.string s,.int .i64 t.place,.slice ia ins.length ic,.slice oa outs.length oc,.slice va vars.length vc,.slice none 0 0]):=by rw[Hid,hw3];exact HDx6.out.set (i:=5) (by simp) _
        have HRx7:Hid (RdAt W0 R tv op x7):=by rw[Hid,hw3];exact HRx6.out.other (by have:=HRd.out;have:=HNb.out;omega)
        have HKx7:Hid (KeepsB R w0 x7):=by rw[Hid,hw3];exact HKx6.out.new (by have:=HS0.out;have:=HNb.out;omega)
        have HWx7:=hid hw3.symm
        clear hw3
        have HQins:Hid (RowQ eltP (fun k=>w.heap.size<k∧k≠N) x7 ia ic ins):=by rw[Hid,←HWx7.out];exact HQins.out.keep (KeepsQ.set fun h=>h.2 rfl)
        have HQouts:Hid (RowQ eltP (fun k=>w.heap.size<k∧k≠N) x7 oa oc outs):=by rw[Hid,←HWx7.out];exact HQouts.out.keep (KeepsQ.set fun h=>h.2 rfl)
        have HQvars:Hid (RowQ eltP (fun k=>w.heap.size<k∧k≠N) x7 va vc vars):=by rw[Hid,←HWx7.out];exact HQvars.out.keep (KeepsQ.set fun h=>h.2 rfl)
        obtain⟨ul,rl,hl⟩:=HEx6.out.ne
        have Cl:=want_all ⟨#[108,101,116]⟩ (by decide) (hl▸HRx7.out) (hl▸HEx6.out)
        rw[←hl] at Cl
        clear hl
        generalize wantT ⟨#[108,101,116]⟩ tv=ql at Cl HResx6
        simp only[rp] at Cl
        go_wp2_with fail
        rw[HWx7.out]
        clear e5 k5 hlB
        refine Cl.mono ?_
        rintro x x8 ⟨hk,hp⟩
        have HKE:=hid (HKx7.out.trans hk)
        have HSl:=hid hk
        clear Cl hk
        cases ql with
        | error er =>
         obtain⟨kk,ee⟩:=er
         obtain⟨rfl,t2,hr2⟩:=hp
         have HRE:Hid _:=hr2
         have HResE:Hid (res=.error (kk,ee)):=HResx6.out
         clear hr2
         go_wp2_with fail
         rw[HResE.out]
         exact⟨rfl,(KeepsB.ofBelow HB0.out).trans HKE.out,rfl,t2,HRE.out⟩
        | ok pr =>
         obtain⟨zl,tl⟩:=pr
         obtain⟨⟨v,rfl,rfl⟩,hr9,hE9⟩:=hp
         have HRx8:=hid hr9
         have HEx8:=hid hE9
         have HKx8:=hid (HKE.out)
         have HDx8:=hid (HDx7.out.keep HSl.out HNb.out.2)
         have HQins:Hid (RowQ eltP (fun k=>w.heap.size<k∧k≠N) x8 ia ic ins):=HQins.out.keep (KeepsQ.ofB HSl.out fun h=>by have:=HRd.out.2;omega)
         have HQouts:Hid (RowQ eltP (fun k=>w.heap.size<k∧k≠N) x8 oa oc outs):=HQouts.out.keep (KeepsQ.ofB HSl.out fun h=>by have:=HRd.out.2;omega)
         have HQvars:Hid (RowQ eltP (fun k=>w.heap.size<k∧k≠N) x8 va vc vars):=HQvars.out.keep (KeepsQ.ofB HSl.out fun h=>by have:=HRd.out.2;omega)
         have HResx8:Hid (res=(eqsL n op n [] tl).then fun q t7=>.ok ((⟨true,s,t.place,none,0,ins,none,0,outs,none,0,vars,none,0,q⟩:Nd),t7)):=HResx6.out
         clear HKE hr9 hE9 HResx6
         obtain⟨i0,hi,hz0',hz1,hz2⟩:=info_parts Tryz.infoEqL
         have HI:Hid _:=hi
         have HZ0:Hid _:=hz0'
         have HZ1:Hid _:=hz1
         have HZ2:Hid _:=hz2
         obtain⟨resq,HRq⟩:∃resq,Hid (eqsL n op n [] tl=resq):=⟨_,rfl⟩
         have HResq:Hid (res=resq.then fun q t7=>.ok ((⟨true,s,t.place,none,0,ins,none,0,outs,none,0,vars,none,0,q⟩:Nd),t7)):=by rw[Hid,←HRq.out];exact HResx8.out
         have HNq:Hid (∀k,resq≠.error (k,0)):=fun k h=>HNs.out k (by rw[HResq.out,h];rfl)
         obtain⟨D,hD⟩:=nw (x8.heap.size)
         have HDd:Hid (w.heap.size<N∧N<D∧R<D∧w0.heap.size≤N):=by
          have h1:=HNb.out
          have h2:=HDx8.out.2.2
          have h3:=HRd.out
          have h4:=HS0.out
          exact⟨by omega,by omega,by omega,by omega⟩
         have HEq:Hid (∀ts W,Ends ts→RdAt W0 R ts op W→(∀k,eqT n op ts≠.error (k,0))→Calls Tryz.prog 99 #[.pointer (some ⟨R,0,none⟩)] W (Post W0 R op W (eqT n op ts) (IsQ W.heap.size))):=fun ts W h1 h2 h3=>eq_rd n op ts W h1 h2 _ rfl h3
         have HX0:Hid (InL eltQ R D 64 w ([]:List Eqn) (.slice none 0 0) x8∧Blk x8 N [.bool true,.string s,.int .i64 t.place,.slice ia ins.length ic,.slice oa outs.length oc,.slice va vars.length vc,.slice none 0 0]∧RdAt W0 R tl op x8∧Ends tl∧eqsL n op n (([]:List Eqn).map eltQ.view) tl=resq∧([]:List Eqn).length+List.length tl≤100001∧D≤x8.heap.size∧KeepsB R w0 x8∧RowQ eltP (fun k=>w.heap.size<k∧k≠N∧k<D) x8 ia ic ins∧RowQ eltP (fun k=>w.heap.size<k∧k≠N∧k<D) x8 oa oc outs∧RowQ eltP (fun k=>w.heap.size<k∧k≠N∧k<D) x8 va vc vars):=by
          refine⟨InL.none ((KeepsB.ofBelow HB0.out).trans HKx8.out),HDx8.out,HRx8.out,HEx8.out,HRq.out,by have:=HEx8.out.few;simp only[List.length_nil];omega,Nat.le_of_eq hD,HKx8.out,HQins.out.mono ?_,HQouts.out.mono ?_,HQvars.out.mono ?_⟩<;>exact fun k h1 h2=>⟨h2.1,h2.2,by omega⟩
         clear hi hz0' hz1 hz2 HResx8 HRq hD
         go_wp2_with fail
         go_loopw [] (fun wr=>∃(xs:List Eqn)(v:Value)(ts':List Tok)(k:Nat),Hid (InL eltQ R D 64 w xs (v) wr∧Blk wr N [.bool true,.string s,.int .i64 t.place,.slice ia ins.length ic,.slice oa outs.length oc,.slice va vars.length vc,v]∧RdAt W0 R ts' op wr∧Ends ts'∧eqsL n op k (xs.map eltQ.view) ts'=resq∧xs.length+List.length ts'≤100001∧D≤wr.heap.size∧KeepsB R w0 wr∧RowQ eltP (fun k=>w.heap.size<k∧k≠N∧k<D) wr ia ic ins∧RowQ eltP (fun k=>w.heap.size<k∧k≠N∧k<D) wr oa oc outs∧RowQ eltP (fun k=>w.heap.size<k∧k≠N∧k<D) wr va vc vars)) (fun wr=>restOf R wr)
         case atStart=>exact⟨[],.slice none 0 0,tl,n,HX0⟩
         case round =>
          obtain⟨xs,v,ts',k,HX⟩:=hrel
          obtain⟨hI,hB,hr,hE,hch,hfew,hDw,hK,hq1,hq2,hq3⟩:=HX.out
          obtain⟨u,r0,rfl⟩:=hE.ne
          rcases k with _|k
          ·exact absurd hch.symm (HNq.out 0)
          obtain⟨qa,qc,rfl⟩:=hI.form
          have HI2:=hid hI
          have HBw:=hid hB
          have HRw:=hid hr
          have HEw:=hid hE
          have HFw:Hid (xs.length+(r0.length+1)≤100001):=by rw[Hid];simpa using hfew
          have HDw:=hid hDw
          have HKw:=hid hK
          have HQw:Hid (RowQ eltP (fun k=>w.heap.size<k∧k≠N∧k<D) wr ia ic ins∧RowQ eltP (fun k=>w.heap.size<k∧k≠N∧k<D) wr oa oc outs∧RowQ eltP (fun k=>w.heap.size<k∧k≠N∧k<D) wr va vc vars):=⟨hq1,hq2,hq3⟩
          have HMeas:Hid (restOf R wr=r0.length+1):=hr.rest
          have CS:=skip_all ⟨#[116,101,108]⟩ (by decide) hr hE
          have HRq:Hid (¬(fun k=>w.heap.size<k∧k≠N∧k<D) R):=fun h=>by have:=HRd.out.2;have:=h.1;omega
          by_cases htel:u.text=⟨#[116,101,108]⟩
          ·have hch2:resq=.ok (xs.map eltQ.view,r0):=by rw[←hch,eqsL];exact if_pos htel
           have HRes3:Hid (res=.ok ((⟨true,s,t.place,none,0,ins,none,0,outs,none,0,vars,none,0,(xs.map eltQ.view)⟩:Nd),r0)):=by rw[Hid,HResq.out,hch2];rfl
           rw[if_pos htel,decide_eq_true htel] at CS
           clear hI hB hr hE hch hfew hDw hK hq1 hq2 hq3 HX HX0 htel hch2
           simp only[rp] at CS
           go_wp2_with fail
           refine CS.mono ?_
           rintro r2 w2 ⟨rfl,hk2,hr2,hE2⟩
           have HR2f:=hid hr2
           have HE2f:=hid hE2
           have HK2f:=hid (HKw.out.trans hk2)
           have HD2f:=hid (HBw.out.keep hk2 HNb.out.2)
           have HLN:Hid (eltN.lies (fun k=>w.heap.size<k) w2 ⟨true,s,t.place,ia,ic,ins,oa,oc,outs,va,vc,vars,qa,qc,xs⟩):=by
            obtain⟨a',c',e1,e2⟩:=inL_rowQ (HI2.out.keep hk2 HDd.out.2.2.1) (by have:=HFw.out;omega)
            obtain⟨rfl,rfl⟩:a'=qa∧c'=qc:=by simpa [eq_comm] using e1
            exact⟨(HQw.out.1.keep (KeepsQ.ofB hk2 HRq.out)).mono fun k _ h=>h.1,(HQw.out.2.1.keep (KeepsQ.ofB hk2 HRq.out)).mono fun k _ h=>h.1,(HQw.out.2.2.keep (KeepsQ.ofB hk2 HRq.out)).mono fun k _ h=>h.1,e2.mono fun k _ (h:D≤k)=>by have:=HDd.out;omega,HSz.out,HFine.out.2.2⟩
           clear CS hk2 hr2 hE2
           have HO9:=hid (HO0.out.keep HK2f.out HneR.out)
           have HD9:=hid (HD2f.out)
           have z0:=HO9.out.get 0 rfl
           have z1:=HO9.out.get 1 rfl
           have z2:=HO9.out.get 2 rfl
           have z3:=HO9.out.get 3 rfl
           have z4:=HO9.out.get 4 rfl
           have z5:=HO9.out.get 5 rfl
           have z6:=HO9.out.get 6 rfl
           have g0:=HO9.out.2.1 0
           have g1:=HO9.out.2.1 1
           have g2:=HO9.out.2.1 2
           have g3:=HO9.out.2.1 3
           have g4:=HO9.out.2.1 4
           have g5:=HO9.out.2.1 5
           have g6:=HO9.out.2.1 6
           have d0:=HD9.out.get 0 rfl
           have d1:=HD9.out.get 1 rfl
           have d2:=HD9.out.get 2 rfl
           have d3:=HD9.out.get 3 rfl
           have d4:=HD9.out.get 4 rfl
           have d5:=HD9.out.get 5 rfl
           have d6:=HD9.out.get 6 rfl
           have hltw:=HO9.out.2.2
           have hltB:=HD9.out.2.2
           have hneB:=(Nat.ne_of_lt HNb.out.1).symm
           obtain⟨W9,hW9⟩:=nw (setFrom w2 w.heap.size 0 [.bool true,.string s,.int .i64 t.place,.slice ia ins.length ic,.slice oa outs.length oc,.slice va vars.length vc,.slice qa xs.length qc])
           have HY:Hid (Blk W9 w.heap.size [.bool true,.string s,.int .i64 t.place,.slice ia ins.length ic,.slice oa outs.length oc,.slice va vars.length vc,.slice qa xs.length qc]):=by rw[Hid,hW9];exact HO9.out.all _ rfl
           have HR10:Hid (RdAt W0 R r0 op W9):=by rw[Hid,hW9];exact setFrom_rd HR2f.out HRd.out.1 _ _
           have HK10:Hid (KeepsB R w W9):=by rw[Hid,hW9];exact setFrom_keepsB ((KeepsB.ofBelow HB0.out).trans HK2f.out) (Nat.le_refl _) _ _
           have HW9:Hid ((((((((w2.setCell ⟨w.heap.size,0,none⟩ (.bool true)).setCell ⟨w.heap.size,1,none⟩ (.string s)).setCell ⟨w.heap.size,2,none⟩ (.int .i64 t.place)).setCell ⟨w.heap.size,3,none⟩ (.slice ia ins.length ic)).setCell ⟨w.heap.size,4,none⟩ (.slice oa outs.length oc)).setCell ⟨w.heap.size,5,none⟩ (.slice va vars.length vc)).setCell ⟨w.heap.size,6,none⟩ (.slice qa xs.length qc))=W9):=by rw[Hid,hW9];rfl
           have HP9:Hid (IsNd w.heap.size W9 ⟨true,s,t.place,none,0,ins,none,0,outs,none,0,vars,none,0,xs.map eltQ.view⟩ (Nd.val ⟨true,s,t.place,ia,ic,ins,oa,oc,outs,va,vc,vars,qa,qc,xs⟩)):=by rw[Hid,hW9];exact⟨_,rfl,rfl,eltN.mono (eltN.keep HLN.out (setFrom_keepsQ (fun h=>Nat.lt_irrefl _ h) _ _)) fun k _ h=>Nat.le_of_lt h⟩
           clear hW9
           go_wp2_with fail
           rw[HW9.out]
           clear z0 g0 d0 z1 g1 d1 z2 g2 d2 z3 g3 d3 z4 g4 d4 z5 g5 d5 z6 g6 d6
           have z0:=HY.out.get 0 rfl
           have z1:=HY.out.get 1 rfl
           have z2:=HY.out.get 2 rfl
           have z3:=HY.out.get 3 rfl
           have z4:=HY.out.get 4 rfl
           have z5:=HY.out.get 5 rfl
           have z6:=HY.out.get 6 rfl
           refine bodyPost_ret (by simp[results,Tryz.results58,go_sem, *];try rfl) rfl ?_
           rw[HRes3.out]
           exact⟨HK10.out,⟨_,rfl,HP9.out⟩,HR10.out,HE2f.out⟩
          ·have hch2:(eqT n op (u::r0)).then (fun q t1=>eqsL n op k (xs.map eltQ.view++[q]) t1)=resq:=by rw[←hch,eqsL];exact(if_neg htel).symm
           have HCh:Hid _:=hch2
           rw[if_neg htel,decide_eq_false htel] at CS
           clear hI hB hr hE hch hfew hDw hK hq1 hq2 hq3 HX HX0 htel hch2
           simp only[rp] at CS
           go_wp2_with fail
           refine CS.mono ?_
           rintro r2 w2 ⟨rfl,hk2,hr2,hE2⟩
           have HR2:=hid hr2
           have HK2w:=hid hk2
           have HD2:=hid (HBw.out.keep hk2 HNb.out.2)
           have HN2:Hid (∀k,eqT n op (u::r0)≠.error (k,0)):=fun k h=>HNq.out k (by rw[←HCh.out,h];rfl)
           have HP:Hid (∀W,RdAt W0 R (u::r0) op W→Calls Tryz.prog 99 #[.pointer (some ⟨R,0,none⟩)] W (Post W0 R op W (eqT n op (u::r0)) (IsQ W.heap.size))):=fun W h=>HEq.out (u::r0) W HEw.out h HN2.out
           have n6:=HD2.out.get 6 rfl
           have n6f:=HD2.out.2.1 6
           have hlN:=HD2.out.2.2
           clear CS hk2 hr2 hE2 HN2
           cases hpp:eqT n op (u::r0) with
           | error er =>
            obtain⟨kk,ee⟩:=er
            rw[hpp] at HP HCh
            have HResE:Hid (res=.error (kk,ee)):=by rw[Hid,HResq.out,←HCh.out];rfl
            clear hpp HCh
            go_wp2_with fail
            refine wp_region_any (by kernel_rfl) ?_
            change wpAny _ _ _ _ _ _ _ (World.drew _)
            refine takeA (i:=0) (v:=?_) rfl rfl (by kernel_rfl) (by kernel_rfl) (by kernel_rfl) (fun _ _ _ h=>h) (Or.inl ⟨by rfl,?_⟩) ?_
            rotate_left
            ·intro w;first|(go_simp;done)|(go_simp;with_reducible rfl)
            try simp only[Act.put,List.setIfInBounds_toArray,List.set_cons_zero,List.set_cons_succ]
            refine takeA (i:=2) (v:=?_) rfl rfl (by kernel_rfl) (by kernel_rfl) (by kernel_rfl) (fun _ _ _ h=>h) (Or.inl ⟨by rfl,?_⟩) ?_
            rotate_left
            ·intro w;first|(go_simp;done)|(go_simp;with_reducible rfl)
            try simp only[Act.put,List.setIfInBounds_toArray,List.set_cons_zero,List.set_cons_succ]
            refine wpAny_ready (rs:=[1,3]) (by kernel_rfl) (by simp) ?_
            refine AllReady.cons rfl (fun K hK=>?_) ?_
            ·go_simp
             refine hK _ _ ?_
             clear hK K
             refine wpAny_ready (rs:=[3]) (by kernel_rfl) (by simp) ?_
             refine AllReady.cons rfl (fun K hK=>?_) AllReady.nil
             go_simp
             refine(HP.out w2.drew HR2.out.drew).mono ?_
             rintro r4 w4 ⟨hk4,rfl,t4,hr4⟩
             have HK4:Hid (KeepsB R w2 w4):=⟨hk4.os,hk4.tape,hk4.output,hk4.size,hk4.block⟩
             have HR4:Hid _:=hr4
             clear hk4 hr4
             go_wp2_with fail
             rw[HResE.out]
             exact⟨rfl,(KeepsB.ofBelow HB0.out).trans (HKw.out.trans (HK2w.out.trans HK4.out)),rfl,t4,HR4.out⟩
            ·refine AllReady.cons rfl (fun K hK=>?_) AllReady.nil
             go_simp
             refine(HP.out w2.drew HR2.out.drew).mono ?_
             rintro r4 w4 ⟨hk4,rfl,t4,hr4⟩
             have HK4:Hid (KeepsB R w2 w4):=⟨hk4.os,hk4.tape,hk4.output,hk4.size,hk4.block⟩
             have HR4:Hid _:=hr4
             clear hk4 hr4
             go_wp2_with fail
             rw[HResE.out]
             exact⟨rfl,(KeepsB.ofBelow HB0.out).trans (HKw.out.trans (HK2w.out.trans HK4.out)),rfl,t4,HR4.out⟩
           | ok pr =>
            obtain⟨e3,t3⟩:=pr
            have HL3:Hid (t3.length<r0.length+1):=by have:=eqT_lt hpp;rw[Hid];simpa using this
            rw[hpp] at HP HCh
            have HC4:Hid (eqsL n op k (xs.map eltQ.view++[e3]) t3=resq):=HCh.out
            have HL1:Hid (xs.length+1≤maxLen):=by have:=HFw.out;rw[Hid];unfold maxLen;omega
            have HL2:Hid ((xs.length+1)*104≤140737488355328):=by have:=HFw.out;rw[Hid];omega
            clear hpp HCh
            go_wp2_with fail
            go_region_law (first
              | (refine step_append_lies (w4.alloc (.cells (eltQ.cells ⟨na4,nc4,ns4,pq4,⟨kd4,pl4,nm4,it4,dn4,ad4,ca4,l4⟩⟩).toArray 64)) rfl (.tmp 46) (.tmp 49) 58 rfl D 64 i0 (.agg #[.slice none 0 0,.int .i64 0,.int .u8 0,.int .i64 0,.string ⟨#[]⟩,.int .i64 0,.int .i64 0,.slice none 0 0]) 8 104 Tryz.underlying58 HI.out HZ0.out HZ1.out HZ2.out rfl (by decide) (.slice qa xs.length qc) xs.length (flatOf eltQ.cells xs) (by simp[Act.eval]) (HI4.out.own.alloc _) ⟨w4.heap.size,0,none⟩ 1 1 (eltQ.cells ⟨na4,nc4,ns4,pq4,⟨kd4,pl4,nm4,it4,dn4,ad4,ca4,l4⟩⟩) (by simp[Act.eval]) rfl (news_at w4 _ _) (eqn_one' _) (by decide) HL1.out HL2.out (by have:=HS4.out;simp;omega) (w4.alloc (.cells (eltQ.cells ⟨na4,nc4,ns4,pq4,⟨kd4,pl4,nm4,it4,dn4,ad4,ca4,l4⟩⟩).toArray 64)).heap.size rfl ?_;intro g cap w6 hown hgr hat hlt;obtain⟨p1,p2,p3⟩:=HAft.out _ w6 hgr;have HOW:Hid _:=hown;have HGR:Hid _:=hgr;have HAT:Hid _:=hat;clear hown hgr hat)
              | (go_simp;go_wp2_with (go_at_call 99;refine(HP.out w2.drew HR2.out.drew).mono ?_;rintro r4 w4 ⟨hk4,⟨v4,rfl,x4,hview,rfl,hlx⟩,hr4,hE4⟩;have HK4:Hid (KeepsB R w2 w4):=⟨hk4.os,hk4.tape,hk4.output,hk4.size,hk4.block⟩;have HI4:Hid (InL eltQ R D 64 w xs (.slice qa xs.length qc) w4):=(HI2.out.keep HK2w.out HDd.out.2.2.1).keep HK4.out HDd.out.2.2.1;have HB4:Hid (Blk w4 N [.bool true,.string s,.int .i64 t.place,.slice ia ins.length ic,.slice oa outs.length oc,.slice va vars.length vc,.slice qa xs.length qc]):=HD2.out.keep HK4.out HNb.out.2;have HR4:Hid (RdAt W0 R t3 op w4):=hr4;have HE4:Hid (Ends t3):=hE4;have HV4:Hid (eltQ.view x4=e3):=hview;have HX4:Hid (eltQ.lies (fun k=>w2.heap.size≤k) w4 x4):=hlx;have HS4:Hid (D≤w4.heap.size):=Nat.le_trans HDw.out (Nat.le_trans HK2w.out.size HK4.out.size);have m6:w4.cell? ⟨N,6,none⟩=some (.slice qa xs.length qc):=HB4.out.get 6 rfl;have m6f:=HB4.out.2.1 6;have m6l:N<w4.heap.size:=HB4.out.2.2;have HAft:Hid (∀(ob:Obj)(w6:World),(w4.alloc ob).grownBy w6 (Value.ownBlock (.slice qa xs.length qc))→w6.cell? ⟨N,6,none⟩=some (.slice qa xs.length qc)∧w6.frozen? ⟨N,6,none⟩=false∧N<w6.heap.size):=fun ob w6 hg=>row_after (l:=[.bool true,.string s,.int .i64 t.place,.slice ia ins.length ic,.slice oa outs.length oc,.slice va vars.length vc]) HB4.out rfl HI4.out HDd.out.2.1 hg;obtain⟨⟨na4,nc4,ns4,pq4,⟨kd4,pl4,nm4,it4,dn4,ad4,ca4,l4⟩⟩,hx4⟩:∃y,y=x4:=⟨_,rfl⟩;subst hx4;clear hk4 hr4 hE4 hview hlx;simp only[Eqn.val,Eqn.cells,Ex.cells])))
            all_goals
             have HNx:Hid _:=row_next (K:=eltQ) (e:=64) (i:=6) (v:=.slice qa xs.length qc) (l:=[.bool true,.string s,.int .i64 t.place,.slice ia ins.length ic,.slice oa outs.length oc,.slice va vars.length vc]) (W0:=W0) (op:=op) (ts:=t3) (x:=⟨na4,nc4,ns4,pq4,⟨kd4,pl4,nm4,it4,dn4,ad4,ca4,l4⟩⟩) HI4.out HB4.out rfl (by have h1:=HDd.out;have h2:=HRd.out;exact⟨by omega,h1.2.1,h1.2.2.1,h1.2.2.2,by omega⟩) (HKw.out.trans (HK2w.out.trans HK4.out)) HR4.out HS4.out (eltQ.mono HX4.out fun k _ (hq:w2.heap.size≤k)=>⟨by have:=HK2w.out.size;have:=HDw.out;omega,fun he=>by have:=(HI2.out.own.lt k he.symm).2;have:=HK2w.out.size;omega⟩) g cap HOW.out HGR.out HAT.out
             have HQx:Hid (∀k,(fun k=>w.heap.size<k∧k≠N∧k<D) k→k≠N∧k<D):=fun k h=>h.2
             have HRow4:Hid (RowQ eltP (fun k=>w.heap.size<k∧k≠N∧k<D) w4 ia ic ins∧RowQ eltP (fun k=>w.heap.size<k∧k≠N∧k<D) w4 oa oc outs∧RowQ eltP (fun k=>w.heap.size<k∧k≠N∧k<D) w4 va vc vars):=⟨(HQw.out.1.keep (KeepsQ.ofB HK2w.out HRq.out)).keep (KeepsQ.ofB HK4.out HRq.out),(HQw.out.2.1.keep (KeepsQ.ofB HK2w.out HRq.out)).keep (KeepsQ.ofB HK4.out HRq.out),(HQw.out.2.2.keep (KeepsQ.ofB HK2w.out HRq.out)).keep (KeepsQ.ofB HK4.out HRq.out)⟩
             go_wp2_with fail
             go_roundw
             case rel =>
              refine⟨xs++[⟨na4,nc4,ns4,pq4,⟨kd4,pl4,nm4,it4,dn4,ad4,ca4,l4⟩⟩],_,t3,k,HNx.out.1,HNx.out.2.1,HNx.out.2.2.1,HE4.out,?_,?_,HNx.out.2.2.2.1,HNx.out.2.2.2.2.1,HRow4.out.1.keep (HNx.out.2.2.2.2.2 _ HQx.out),HRow4.out.2.1.keep (HNx.out.2.2.2.2.2 _ HQx.out),HRow4.out.2.2.keep (HNx.out.2.2.2.2.2 _ HQx.out)⟩
              ·rw[List.map_append,←HC4.out,←HV4.out];rfl
              ·have:=HFw.out
               have:=HL3.out
               simp only[List.length_append,List.length_cons,List.length_nil]
               omega
             case measure =>
              rw[HMeas.out,HNx.out.2.2.1.rest]
              exact HL3.out
   | false =>
    rw[hf] at HDc HRes1
    clear hf
    have HResc:Hid (res=(paramsT paramT n t1).then fun ins t2=>(wantT ⟨#[114,101,116,117,114,110,115]⟩ t2).then fun _ t3=>(paramsT paramT n t3).then fun outs t4=>(varsT n t4).then fun vars t5=>(wantT ⟨#[108,101,116]⟩ t5).then fun _ t6=>(eqsL n op n [] t6).then fun q t7=>.ok ((⟨false,s,t.place,none,0,ins,none,0,outs,none,0,vars,none,0,q⟩:Nd),t7)):=by rw[Hid,HRes1.out,inOf_false,outOf_false]
    clear HRes1
    have b0:=HDc.out.get 0 rfl
    have Ci:=params_rd 93 (enters_of Tryz.func93 (by kernel_rfl) rfl) paramT (fun op ts w h1 h2 _=>param_rd h1 h2) param_shr n op t1 wc HEc.out HRc.out _ rfl (fun k h=>HNs.out k (by rw[HResc.out,h];rfl))
    generalize paramsT paramT n t1=qi at Ci HResc
    simp only[rp] at Ci
    go_wp2_with fail
    refine Ci.mono ?_
    rintro x x1 ⟨hk,hp⟩
    have HKE:=hid (HKc.out.trans hk)
    have HSi:=hid hk
    clear Ci hk
    cases qi with
    | error er =>
     obtain⟨kk,ee⟩:=er
     obtain⟨rfl,t2,hr2⟩:=hp
     have HRE:Hid _:=hr2
     have HResE:Hid (res=.error (kk,ee)):=HResc.out
     clear hr2
     go_wp2_with fail
     rw[HResE.out]
     exact⟨rfl,(KeepsB.ofBelow HB0.out).trans HKE.out,rfl,t2,HRE.out⟩
    | ok pr =>
     obtain⟨li,ti⟩:=pr
     obtain⟨⟨v,rfl,hv⟩,hr9,hE9⟩:=hp
     obtain⟨ins,ia,ic,hmap,rfl,hrow⟩:=hv.rowQ
     obtain rfl:ins=li:=by rw[←hmap];exact(List.map_id ins).symm
     have HRx1:=hid hr9
     have HEx1:=hid hE9
     have HKx1:=hid (HKE.out)
     have HDx1:=hid (HDc.out.keep HSi.out HNb.out.2)
     have HQins:Hid (RowQ eltP (fun k=>w.heap.size<k∧k≠N) x1 ia ic ins):=hrow.mono fun k _ (hq:wc.heap.size≤k)=>by
      have h1:=HDc.out.2.2
      have h2:=HNb.out.1
      exact⟨by omega,by omega⟩
     have HResx1:Hid (res=(wantT ⟨#[114,101,116,117,114,110,115]⟩ ti).then fun _ t3=>(paramsT paramT n t3).then fun outs t4=>(varsT n t4).then fun vars t5=>(wantT ⟨#[108,101,116]⟩ t5).then fun _ t6=>(eqsL n op n [] t6).then fun q t7=>.ok ((⟨false,s,t.place,none,0,ins,none,0,outs,none,0,vars,none,0,q⟩:Nd),t7)):=HResc.out
     clear HKE hr9 hE9 HResc hv hrow hmap
     obtain⟨x2,hw3⟩:=nw (x1.setCell ⟨N,3,none⟩ (.slice ia ins.length ic))
     have e3:=HDx1.out.get 3 rfl
     have k3:=HDx1.out.2.1 3
     have hlB:=HDx1.out.2.2
     have HDx2:Hid (Blk x2 N [.bool false,.string s,.int .i64 t.place,.slice ia ins.length ic,.slice none 0 0,.slice none 0 0,.slice none 0 0]):=by rw[Hid,hw3];exact HDx1.out.set (i:=3) (by simp) _
     have HRx2:Hid (RdAt W0 R ti op x2):=by rw[Hid,hw3];exact HRx1.out.other (by have:=HRd.out;have:=HNb.out;omega)
     have HKx2:Hid (KeepsB R w0 x2):=by rw[Hid,hw3];exact HKx1.out.new (by have:=HS0.out;have:=HNb.out;omega)
     have HWx2:=hid hw3.symm
     clear hw3
     have HQins:Hid (RowQ eltP (fun k=>w.heap.size<k∧k≠N) x2 ia ic ins):=by rw[Hid,←HWx2.out];exact HQins.out.keep (KeepsQ.set fun h=>h.2 rfl)
     obtain⟨ur,rr,hr⟩:=HEx1.out.ne
     have Cr:=want_all ⟨#[114,101,116,117,114,110,115]⟩ (by decide) (hr▸HRx2.out) (hr▸HEx1.out)
     rw[←hr] at Cr
     clear hr
     generalize wantT ⟨#[114,101,116,117,114,110,115]⟩ ti=qr at Cr HResx1
     simp only[rp] at Cr
     go_wp2_with fail
     rw[HWx2.out]
     clear e3 k3 hlB
     refine Cr.mono ?_
     rintro x x3 ⟨hk,hp⟩
     have HKE:=hid (HKx2.out.trans hk)
     have HSr:=hid hk
     clear Cr hk
     cases qr with
     | error er =>
      obtain⟨kk,ee⟩:=er
      obtain⟨rfl,t2,hr2⟩:=hp
      have HRE:Hid _:=hr2
      have HResE:Hid (res=.error (kk,ee)):=HResx1.out
      clear hr2
      go_wp2_with fail
      rw[HResE.out]
      exact⟨rfl,(KeepsB.ofBelow HB0.out).trans HKE.out,rfl,t2,HRE.out⟩
     | ok pr =>
      obtain⟨zr,tr⟩:=pr
      obtain⟨⟨v,rfl,rfl⟩,hr9,hE9⟩:=hp
      have HRx3:=hid hr9
      have HEx3:=hid hE9
      have HKx3:=hid (HKE.out)
      have HDx3:=hid (HDx2.out.keep HSr.out HNb.out.2)
      have HQins:Hid (RowQ eltP (fun k=>w.heap.size<k∧k≠N) x3 ia ic ins):=HQins.out.keep (KeepsQ.ofB HSr.out fun h=>by have:=HRd.out.2;omega)
      have HResx3:Hid (res=(paramsT paramT n tr).then fun outs t4=>(varsT n t4).then fun vars t5=>(wantT ⟨#[108,101,116]⟩ t5).then fun _ t6=>(eqsL n op n [] t6).then fun q t7=>.ok ((⟨false,s,t.place,none,0,ins,none,0,outs,none,0,vars,none,0,q⟩:Nd),t7)):=HResx1.out
      clear HKE hr9 hE9 HResx1
      have Cw:=params_rd 93 (enters_of Tryz.func93 (by kernel_rfl) rfl) paramT (fun op ts w h1 h2 _=>param_rd h1 h2) param_shr n op tr x3 HEx3.out HRx3.out _ rfl (fun k h=>HNs.out k (by rw[HResx3.out,h];rfl))
      generalize paramsT paramT n tr=qw at Cw HResx3
      simp only[rp] at Cw
      go_wp2_with fail
      refine Cw.mono ?_
      rintro x x4 ⟨hk,hp⟩
      have HKE:=hid (HKx3.out.trans hk)
      have HSw:=hid hk
      clear Cw hk
      cases qw with
      | error er =>
       obtain⟨kk,ee⟩:=er
       obtain⟨rfl,t2,hr2⟩:=hp
       have HRE:Hid _:=hr2
       have HResE:Hid (res=.error (kk,ee)):=HResx3.out
       clear hr2
       go_wp2_with fail
       rw[HResE.out]
       exact⟨rfl,(KeepsB.ofBelow HB0.out).trans HKE.out,rfl,t2,HRE.out⟩
      | ok pr =>
       obtain⟨lw,tw⟩:=pr
       obtain⟨⟨v,rfl,hv⟩,hr9,hE9⟩:=hp
       obtain⟨outs,oa,oc,hmap,rfl,hrow⟩:=hv.rowQ
       obtain rfl:outs=lw:=by rw[←hmap];exact(List.map_id outs).symm
       have HRx4:=hid hr9
       have HEx4:=hid hE9
       have HKx4:=hid (HKE.out)
       have HDx4:=hid (HDx3.out.keep HSw.out HNb.out.2)
       have HQouts:Hid (RowQ eltP (fun k=>w.heap.size<k∧k≠N) x4 oa oc outs):=hrow.mono fun k _ (hq:x3.heap.size≤k)=>by
        have h1:=HDx3.out.2.2
        have h2:=HNb.out.1
        exact⟨by omega,by omega⟩
       have HQins:Hid (RowQ eltP (fun k=>w.heap.size<k∧k≠N) x4 ia ic ins):=HQins.out.keep (KeepsQ.ofB HSw.out fun h=>by have:=HRd.out.2;omega)
       have HResx4:Hid (res=(varsT n tw).then fun vars t5=>(wantT ⟨#[108,101,116]⟩ t5).then fun _ t6=>(eqsL n op n [] t6).then fun q t7=>.ok ((⟨false,s,t.place,none,0,ins,none,0,outs,none,0,vars,none,0,q⟩:Nd),t7)):=HResx3.out
       clear HKE hr9 hE9 HResx3 hv hrow hmap
       obtain⟨x5,hw3⟩:=nw (x4.setCell ⟨N,4,none⟩ (.slice oa outs.length oc))
       have e4:=HDx4.out.get 4 rfl
       have k4:=HDx4.out.2.1 4
       have hlB:=HDx4.out.2.2
       have HDx5:Hid (Blk x5 N [.bool false,.string s,.int .i64 t.place,.slice ia ins.length ic,.slice oa outs.length oc,.slice none 0 0,.slice none 0 0]):=by rw[Hid,hw3];exact HDx4.out.set (i:=4) (by simp) _
       have HRx5:Hid (RdAt W0 R tw op x5):=by rw[Hid,hw3];exact HRx4.out.other (by have:=HRd.out;have:=HNb.out;omega)
       have HKx5:Hid (KeepsB R w0 x5):=by rw[Hid,hw3];exact HKx4.out.new (by have:=HS0.out;have:=HNb.out;omega)
       have HWx5:=hid hw3.symm
       clear hw3
       have HQins:Hid (RowQ eltP (fun k=>w.heap.size<k∧k≠N) x5 ia ic ins):=by rw[Hid,←HWx5.out];exact HQins.out.keep (KeepsQ.set fun h=>h.2 rfl)
       have HQouts:Hid (RowQ eltP (fun k=>w.heap.size<k∧k≠N) x5 oa oc outs):=by rw[Hid,←HWx5.out];exact HQouts.out.keep (KeepsQ.set fun h=>h.2 rfl)
       have Cv:=vars_rd n op tw x5 HEx4.out HRx5.out _ rfl (fun k h=>HNs.out k (by rw[HResx4.out,h];rfl))
       generalize varsT n tw=qv at Cv HResx4
       simp only[rp] at Cv
       go_wp2_with fail
       rw[HWx5.out]
       clear e4 k4 hlB
       refine Cv.mono ?_
       rintro x x6 ⟨hk,hp⟩
       have HKE:=hid (HKx5.out.trans hk)
       have HSv:=hid hk
       clear Cv hk
       cases qv with
       | error er =>
        obtain⟨kk,ee⟩:=er
        obtain⟨rfl,t2,hr2⟩:=hp
        have HRE:Hid _:=hr2
        have HResE:Hid (res=.error (kk,ee)):=HResx4.out
        clear hr2
        go_wp2_with fail
        rw[HResE.out]
        exact⟨rfl,(KeepsB.ofBelow HB0.out).trans HKE.out,rfl,t2,HRE.out⟩
       | ok pr =>
        obtain⟨lv,tv⟩:=pr
        obtain⟨⟨v,rfl,hv⟩,hr9,hE9⟩:=hp
        obtain⟨vars,va,vc,hmap,rfl,hrow⟩:=hv.rowQ
        obtain rfl:vars=lv:=by rw[←hmap];exact(List.map_id vars).symm
        have HRx6:=hid hr9
        have HEx6:=hid hE9
        have HKx6:=hid (HKE.out)
        have HDx6:=hid (HDx5.out.keep HSv.out HNb.out.2)
        have HQvars:Hid (RowQ eltP (fun k=>w.heap.size<k∧k≠N) x6 va vc vars):=hrow.mono fun k _ (hq:x5.heap.size≤k)=>by
         have h1:=HDx5.out.2.2
         have h2:=HNb.out.1
         exact⟨by omega,by omega⟩
        have HQins:Hid (RowQ eltP (fun k=>w.heap.size<k∧k≠N) x6 ia ic ins):=HQins.out.keep (KeepsQ.ofB HSv.out fun h=>by have:=HRd.out.2;omega)
        have HQouts:Hid (RowQ eltP (fun k=>w.heap.size<k∧k≠N) x6 oa oc outs):=HQouts.out.keep (KeepsQ.ofB HSv.out fun h=>by have:=HRd.out.2;omega)
        have HResx6:Hid (res=(wantT ⟨#[108,101,116]⟩ tv).then fun _ t6=>(eqsL n op n [] t6).then fun q t7=>.ok ((⟨false,s,t.place,none,0,ins,none,0,outs,none,0,vars,none,0,q⟩:Nd),t7)):=HResx4.out
        clear HKE hr9 hE9 HResx4 hv hrow hmap
        obtain⟨x7,hw3⟩:=nw (x6.setCell ⟨N,5,none⟩ (.slice va vars.length vc))
        have e5:=HDx6.out.get 5 rfl
        have k5:=HDx6.out.2.1 5
        have hlB:=HDx6.out.2.2
        have HDx7:Hid (Blk x7 N [.bool false,.string s,.int .i64 t.place,.slice ia ins.length ic,.slice oa outs.length oc,.slice va vars.length vc,.slice none 0 0]):=by rw[Hid,hw3];exact HDx6.out.set (i:=5) (by simp) _
        have HRx7:Hid (RdAt W0 R tv op x7):=by rw[Hid,hw3];exact HRx6.out.other (by have:=HRd.out;have:=HNb.out;omega)
        have HKx7:Hid (KeepsB R w0 x7):=by rw[Hid,hw3];exact HKx6.out.new (by have:=HS0.out;have:=HNb.out;omega)
        have HWx7:=hid hw3.symm
        clear hw3
        have HQins:Hid (RowQ eltP (fun k=>w.heap.size<k∧k≠N) x7 ia ic ins):=by rw[Hid,←HWx7.out];exact HQins.out.keep (KeepsQ.set fun h=>h.2 rfl)
        have HQouts:Hid (RowQ eltP (fun k=>w.heap.size<k∧k≠N) x7 oa oc outs):=by rw[Hid,←HWx7.out];exact HQouts.out.keep (KeepsQ.set fun h=>h.2 rfl)
        have HQvars:Hid (RowQ eltP (fun k=>w.heap.size<k∧k≠N) x7 va vc vars):=by rw[Hid,←HWx7.out];exact HQvars.out.keep (KeepsQ.set fun h=>h.2 rfl)
        obtain⟨ul,rl,hl⟩:=HEx6.out.ne
        have Cl:=want_all ⟨#[108,101,116]⟩ (by decide) (hl▸HRx7.out) (hl▸HEx6.out)
        rw[←hl] at Cl
        clear hl
        generalize wantT ⟨#[108,101,116]⟩ tv=ql at Cl HResx6
        simp only[rp] at Cl
        go_wp2_with fail
        rw[HWx7.out]
        clear e5 k5 hlB
        refine Cl.mono ?_
        rintro x x8 ⟨hk,hp⟩
        have HKE:=hid (HKx7.out.trans hk)
        have HSl:=hid hk
        clear Cl hk
        cases ql with
        | error er =>
         obtain⟨kk,ee⟩:=er
         obtain⟨rfl,t2,hr2⟩:=hp
         have HRE:Hid _:=hr2
         have HResE:Hid (res=.error (kk,ee)):=HResx6.out
         clear hr2
         go_wp2_with fail
         rw[HResE.out]
         exact⟨rfl,(KeepsB.ofBelow HB0.out).trans HKE.out,rfl,t2,HRE.out⟩
        | ok pr =>
         obtain⟨zl,tl⟩:=pr
         obtain⟨⟨v,rfl,rfl⟩,hr9,hE9⟩:=hp
         have HRx8:=hid hr9
         have HEx8:=hid hE9
         have HKx8:=hid (HKE.out)
         have HDx8:=hid (HDx7.out.keep HSl.out HNb.out.2)
         have HQins:Hid (RowQ eltP (fun k=>w.heap.size<k∧k≠N) x8 ia ic ins):=HQins.out.keep (KeepsQ.ofB HSl.out fun h=>by have:=HRd.out.2;omega)
         have HQouts:Hid (RowQ eltP (fun k=>w.heap.size<k∧k≠N) x8 oa oc outs):=HQouts.out.keep (KeepsQ.ofB HSl.out fun h=>by have:=HRd.out.2;omega)
         have HQvars:Hid (RowQ eltP (fun k=>w.heap.size<k∧k≠N) x8 va vc vars):=HQvars.out.keep (KeepsQ.ofB HSl.out fun h=>by have:=HRd.out.2;omega)
         have HResx8:Hid (res=(eqsL n op n [] tl).then fun q t7=>.ok ((⟨false,s,t.place,none,0,ins,none,0,outs,none,0,vars,none,0,q⟩:Nd),t7)):=HResx6.out
         clear HKE hr9 hE9 HResx6
         obtain⟨i0,hi,hz0',hz1,hz2⟩:=info_parts Tryz.infoEqL
         have HI:Hid _:=hi
         have HZ0:Hid _:=hz0'
         have HZ1:Hid _:=hz1
         have HZ2:Hid _:=hz2
         obtain⟨resq,HRq⟩:∃resq,Hid (eqsL n op n [] tl=resq):=⟨_,rfl⟩
         have HResq:Hid (res=resq.then fun q t7=>.ok ((⟨false,s,t.place,none,0,ins,none,0,outs,none,0,vars,none,0,q⟩:Nd),t7)):=by rw[Hid,←HRq.out];exact HResx8.out
         have HNq:Hid (∀k,resq≠.error (k,0)):=fun k h=>HNs.out k (by rw[HResq.out,h];rfl)
         obtain⟨D,hD⟩:=nw (x8.heap.size)
         have HDd:Hid (w.heap.size<N∧N<D∧R<D∧w0.heap.size≤N):=by
          have h1:=HNb.out
          have h2:=HDx8.out.2.2
          have h3:=HRd.out
          have h4:=HS0.out
          exact⟨by omega,by omega,by omega,by omega⟩
         have HEq:Hid (∀ts W,Ends ts→RdAt W0 R ts op W→(∀k,eqT n op ts≠.error (k,0))→Calls Tryz.prog 99 #[.pointer (some ⟨R,0,none⟩)] W (Post W0 R op W (eqT n op ts) (IsQ W.heap.size))):=fun ts W h1 h2 h3=>eq_rd n op ts W h1 h2 _ rfl h3
         have HX0:Hid (InL eltQ R D 64 w ([]:List Eqn) (.slice none 0 0) x8∧Blk x8 N [.bool false,.string s,.int .i64 t.place,.slice ia ins.length ic,.slice oa outs.length oc,.slice va vars.length vc,.slice none 0 0]∧RdAt W0 R tl op x8∧Ends tl∧eqsL n op n (([]:List Eqn).map eltQ.view) tl=resq∧([]:List Eqn).length+List.length tl≤100001∧D≤x8.heap.size∧KeepsB R w0 x8∧RowQ eltP (fun k=>w.heap.size<k∧k≠N∧k<D) x8 ia ic ins∧RowQ eltP (fun k=>w.heap.size<k∧k≠N∧k<D) x8 oa oc outs∧RowQ eltP (fun k=>w.heap.size<k∧k≠N∧k<D) x8 va vc vars):=by
          refine⟨InL.none ((KeepsB.ofBelow HB0.out).trans HKx8.out),HDx8.out,HRx8.out,HEx8.out,HRq.out,by have:=HEx8.out.few;simp only[List.length_nil];omega,Nat.le_of_eq hD,HKx8.out,HQins.out.mono ?_,HQouts.out.mono ?_,HQvars.out.mono ?_⟩<;>exact fun k h1 h2=>⟨h2.1,h2.2,by omega⟩
         clear hi hz0' hz1 hz2 HResx8 HRq hD
         go_wp2_with fail
         go_loopw [] (fun wr=>∃(xs:List Eqn)(v:Value)(ts':List Tok)(k:Nat),Hid (InL eltQ R D 64 w xs (v) wr∧Blk wr N [.bool false,.string s,.int .i64 t.place,.slice ia ins.length ic,.slice oa outs.length oc,.slice va vars.length vc,v]∧RdAt W0 R ts' op wr∧Ends ts'∧eqsL n op k (xs.map eltQ.view) ts'=resq∧xs.length+List.length ts'≤100001∧D≤wr.heap.size∧KeepsB R w0 wr∧RowQ eltP (fun k=>w.heap.size<k∧k≠N∧k<D) wr ia ic ins∧RowQ eltP (fun k=>w.heap.size<k∧k≠N∧k<D) wr oa oc outs∧RowQ eltP (fun k=>w.heap.size<k∧k≠N∧k<D) wr va vc vars)) (fun wr=>restOf R wr)
         case atStart=>exact⟨[],.slice none 0 0,tl,n,HX0⟩
         case round =>
          obtain⟨xs,v,ts',k,HX⟩:=hrel
          obtain⟨hI,hB,hr,hE,hch,hfew,hDw,hK,hq1,hq2,hq3⟩:=HX.out
          obtain⟨u,r0,rfl⟩:=hE.ne
          rcases k with _|k
          ·exact absurd hch.symm (HNq.out 0)
          obtain⟨qa,qc,rfl⟩:=hI.form
          have HI2:=hid hI
          have HBw:=hid hB
          have HRw:=hid hr
          have HEw:=hid hE
          have HFw:Hid (xs.length+(r0.length+1)≤100001):=by rw[Hid];simpa using hfew
          have HDw:=hid hDw
          have HKw:=hid hK
          have HQw:Hid (RowQ eltP (fun k=>w.heap.size<k∧k≠N∧k<D) wr ia ic ins∧RowQ eltP (fun k=>w.heap.size<k∧k≠N∧k<D) wr oa oc outs∧RowQ eltP (fun k=>w.heap.size<k∧k≠N∧k<D) wr va vc vars):=⟨hq1,hq2,hq3⟩
          have HMeas:Hid (restOf R wr=r0.length+1):=hr.rest
          have CS:=skip_all ⟨#[116,101,108]⟩ (by decide) hr hE
          have HRq:Hid (¬(fun k=>w.heap.size<k∧k≠N∧k<D) R):=fun h=>by have:=HRd.out.2;have:=h.1;omega
          by_cases htel:u.text=⟨#[116,101,108]⟩
          ·have hch2:resq=.ok (xs.map eltQ.view,r0):=by rw[←hch,eqsL];exact if_pos htel
           have HRes3:Hid (res=.ok ((⟨false,s,t.place,none,0,ins,none,0,outs,none,0,vars,none,0,(xs.map eltQ.view)⟩:Nd),r0)):=by rw[Hid,HResq.out,hch2];rfl
           rw[if_pos htel,decide_eq_true htel] at CS
           clear hI hB hr hE hch hfew hDw hK hq1 hq2 hq3 HX HX0 htel hch2
           simp only[rp] at CS
           go_wp2_with fail
           refine CS.mono ?_
           rintro r2 w2 ⟨rfl,hk2,hr2,hE2⟩
           have HR2f:=hid hr2
           have HE2f:=hid hE2
           have HK2f:=hid (HKw.out.trans hk2)
           have HD2f:=hid (HBw.out.keep hk2 HNb.out.2)
           have HLN:Hid (eltN.lies (fun k=>w.heap.size<k) w2 ⟨false,s,t.place,ia,ic,ins,oa,oc,outs,va,vc,vars,qa,qc,xs⟩):=by
            obtain⟨a',c',e1,e2⟩:=inL_rowQ (HI2.out.keep hk2 HDd.out.2.2.1) (by have:=HFw.out;omega)
            obtain⟨rfl,rfl⟩:a'=qa∧c'=qc:=by simpa [eq_comm] using e1
            exact⟨(HQw.out.1.keep (KeepsQ.ofB hk2 HRq.out)).mono fun k _ h=>h.1,(HQw.out.2.1.keep (KeepsQ.ofB hk2 HRq.out)).mono fun k _ h=>h.1,(HQw.out.2.2.keep (KeepsQ.ofB hk2 HRq.out)).mono fun k _ h=>h.1,e2.mono fun k _ (h:D≤k)=>by have:=HDd.out;omega,HSz.out,HFine.out.2.2⟩
           clear CS hk2 hr2 hE2
           have HO9:=hid (HO0.out.keep HK2f.out HneR.out)
           have HD9:=hid (HD2f.out)
           have z0:=HO9.out.get 0 rfl
           have z1:=HO9.out.get 1 rfl
           have z2:=HO9.out.get 2 rfl
           have z3:=HO9.out.get 3 rfl
           have z4:=HO9.out.get 4 rfl
           have z5:=HO9.out.get 5 rfl
           have z6:=HO9.out.get 6 rfl
           have g0:=HO9.out.2.1 0
           have g1:=HO9.out.2.1 1
           have g2:=HO9.out.2.1 2
           have g3:=HO9.out.2.1 3
           have g4:=HO9.out.2.1 4
           have g5:=HO9.out.2.1 5
           have g6:=HO9.out.2.1 6
           have d0:=HD9.out.get 0 rfl
           have d1:=HD9.out.get 1 rfl
           have d2:=HD9.out.get 2 rfl
           have d3:=HD9.out.get 3 rfl
           have d4:=HD9.out.get 4 rfl
           have d5:=HD9.out.get 5 rfl
           have d6:=HD9.out.get 6 rfl
           have hltw:=HO9.out.2.2
           have hltB:=HD9.out.2.2
           have hneB:=(Nat.ne_of_lt HNb.out.1).symm
           obtain⟨W9,hW9⟩:=nw (setFrom w2 w.heap.size 0 [.bool false,.string s,.int .i64 t.place,.slice ia ins.length ic,.slice oa outs.length oc,.slice va vars.length vc,.slice qa xs.length qc])
           have HY:Hid (Blk W9 w.heap.size [.bool false,.string s,.int .i64 t.place,.slice ia ins.length ic,.slice oa outs.length oc,.slice va vars.length vc,.slice qa xs.length qc]):=by rw[Hid,hW9];exact HO9.out.all _ rfl
           have HR10:Hid (RdAt W0 R r0 op W9):=by rw[Hid,hW9];exact setFrom_rd HR2f.out HRd.out.1 _ _
           have HK10:Hid (KeepsB R w W9):=by rw[Hid,hW9];exact setFrom_keepsB ((KeepsB.ofBelow HB0.out).trans HK2f.out) (Nat.le_refl _) _ _
           have HW9:Hid ((((((((w2.setCell ⟨w.heap.size,0,none⟩ (.bool false)).setCell ⟨w.heap.size,1,none⟩ (.string s)).setCell ⟨w.heap.size,2,none⟩ (.int .i64 t.place)).setCell ⟨w.heap.size,3,none⟩ (.slice ia ins.length ic)).setCell ⟨w.heap.size,4,none⟩ (.slice oa outs.length oc)).setCell ⟨w.heap.size,5,none⟩ (.slice va vars.length vc)).setCell ⟨w.heap.size,6,none⟩ (.slice qa xs.length qc))=W9):=by rw[Hid,hW9];rfl
           have HP9:Hid (IsNd w.heap.size W9 ⟨false,s,t.place,none,0,ins,none,0,outs,none,0,vars,none,0,xs.map eltQ.view⟩ (Nd.val ⟨false,s,t.place,ia,ic,ins,oa,oc,outs,va,vc,vars,qa,qc,xs⟩)):=by rw[Hid,hW9];exact⟨_,rfl,rfl,eltN.mono (eltN.keep HLN.out (setFrom_keepsQ (fun h=>Nat.lt_irrefl _ h) _ _)) fun k _ h=>Nat.le_of_lt h⟩
           clear hW9
           go_wp2_with fail
           rw[HW9.out]
           clear z0 g0 d0 z1 g1 d1 z2 g2 d2 z3 g3 d3 z4 g4 d4 z5 g5 d5 z6 g6 d6
           have z0:=HY.out.get 0 rfl
           have z1:=HY.out.get 1 rfl
           have z2:=HY.out.get 2 rfl
           have z3:=HY.out.get 3 rfl
           have z4:=HY.out.get 4 rfl
           have z5:=HY.out.get 5 rfl
           have z6:=HY.out.get 6 rfl
           refine bodyPost_ret (by simp[results,Tryz.results58,go_sem, *];try rfl) rfl ?_
           rw[HRes3.out]
           exact⟨HK10.out,⟨_,rfl,HP9.out⟩,HR10.out,HE2f.out⟩
          ·have hch2:(eqT n op (u::r0)).then (fun q t1=>eqsL n op k (xs.map eltQ.view++[q]) t1)=resq:=by rw[←hch,eqsL];exact(if_neg htel).symm
           have HCh:Hid _:=hch2
           rw[if_neg htel,decide_eq_false htel] at CS
           clear hI hB hr hE hch hfew hDw hK hq1 hq2 hq3 HX HX0 htel hch2
           simp only[rp] at CS
           go_wp2_with fail
           refine CS.mono ?_
           rintro r2 w2 ⟨rfl,hk2,hr2,hE2⟩
           have HR2:=hid hr2
           have HK2w:=hid hk2
           have HD2:=hid (HBw.out.keep hk2 HNb.out.2)
           have HN2:Hid (∀k,eqT n op (u::r0)≠.error (k,0)):=fun k h=>HNq.out k (by rw[←HCh.out,h];rfl)
           have HP:Hid (∀W,RdAt W0 R (u::r0) op W→Calls Tryz.prog 99 #[.pointer (some ⟨R,0,none⟩)] W (Post W0 R op W (eqT n op (u::r0)) (IsQ W.heap.size))):=fun W h=>HEq.out (u::r0) W HEw.out h HN2.out
           have n6:=HD2.out.get 6 rfl
           have n6f:=HD2.out.2.1 6
           have hlN:=HD2.out.2.2
           clear CS hk2 hr2 hE2 HN2
           cases hpp:eqT n op (u::r0) with
           | error er =>
            obtain⟨kk,ee⟩:=er
            rw[hpp] at HP HCh
            have HResE:Hid (res=.error (kk,ee)):=by rw[Hid,HResq.out,←HCh.out];rfl
            clear hpp HCh
            go_wp2_with fail
            refine wp_region_any (by kernel_rfl) ?_
            change wpAny _ _ _ _ _ _ _ (World.drew _)
            refine takeA (i:=0) (v:=?_) rfl rfl (by kernel_rfl) (by kernel_rfl) (by kernel_rfl) (fun _ _ _ h=>h) (Or.inl ⟨by rfl,?_⟩) ?_
            rotate_left
            ·intro w;first|(go_simp;done)|(go_simp;with_reducible rfl)
            try simp only[Act.put,List.setIfInBounds_toArray,List.set_cons_zero,List.set_cons_succ]
            refine takeA (i:=2) (v:=?_) rfl rfl (by kernel_rfl) (by kernel_rfl) (by kernel_rfl) (fun _ _ _ h=>h) (Or.inl ⟨by rfl,?_⟩) ?_
            rotate_left
            ·intro w;first|(go_simp;done)|(go_simp;with_reducible rfl)
            try simp only[Act.put,List.setIfInBounds_toArray,List.set_cons_zero,List.set_cons_succ]
            refine wpAny_ready (rs:=[1,3]) (by kernel_rfl) (by simp) ?_
            refine AllReady.cons rfl (fun K hK=>?_) ?_
            ·go_simp
             refine hK _ _ ?_
             clear hK K
             refine wpAny_ready (rs:=[3]) (by kernel_rfl) (by simp) ?_
             refine AllReady.cons rfl (fun K hK=>?_) AllReady.nil
             go_simp
             refine(HP.out w2.drew HR2.out.drew).mono ?_
             rintro r4 w4 ⟨hk4,rfl,t4,hr4⟩
             have HK4:Hid (KeepsB R w2 w4):=⟨hk4.os,hk4.tape,hk4.output,hk4.size,hk4.block⟩
             have HR4:Hid _:=hr4
             clear hk4 hr4
             go_wp2_with fail
             rw[HResE.out]
             exact⟨rfl,(KeepsB.ofBelow HB0.out).trans (HKw.out.trans (HK2w.out.trans HK4.out)),rfl,t4,HR4.out⟩
            ·refine AllReady.cons rfl (fun K hK=>?_) AllReady.nil
             go_simp
             refine(HP.out w2.drew HR2.out.drew).mono ?_
             rintro r4 w4 ⟨hk4,rfl,t4,hr4⟩
             have HK4:Hid (KeepsB R w2 w4):=⟨hk4.os,hk4.tape,hk4.output,hk4.size,hk4.block⟩
             have HR4:Hid _:=hr4
             clear hk4 hr4
             go_wp2_with fail
             rw[HResE.out]
             exact⟨rfl,(KeepsB.ofBelow HB0.out).trans (HKw.out.trans (HK2w.out.trans HK4.out)),rfl,t4,HR4.out⟩
           | ok pr =>
            obtain⟨e3,t3⟩:=pr
            have HL3:Hid (t3.length<r0.length+1):=by have:=eqT_lt hpp;rw[Hid];simpa using this
            rw[hpp] at HP HCh
            have HC4:Hid (eqsL n op k (xs.map eltQ.view++[e3]) t3=resq):=HCh.out
            have HL1:Hid (xs.length+1≤maxLen):=by have:=HFw.out;rw[Hid];unfold maxLen;omega
            have HL2:Hid ((xs.length+1)*104≤140737488355328):=by have:=HFw.out;rw[Hid];omega
            clear hpp HCh
            go_wp2_with fail
            go_region_law (first
              | (refine step_append_lies (w4.alloc (.cells (eltQ.cells ⟨na4,nc4,ns4,pq4,⟨kd4,pl4,nm4,it4,dn4,ad4,ca4,l4⟩⟩).toArray 64)) rfl (.tmp 46) (.tmp 49) 58 rfl D 64 i0 (.agg #[.slice none 0 0,.int .i64 0,.int .u8 0,.int .i64 0,.string ⟨#[]⟩,.int .i64 0,.int .i64 0,.slice none 0 0]) 8 104 Tryz.underlying58 HI.out HZ0.out HZ1.out HZ2.out rfl (by decide) (.slice qa xs.length qc) xs.length (flatOf eltQ.cells xs) (by simp[Act.eval]) (HI4.out.own.alloc _) ⟨w4.heap.size,0,none⟩ 1 1 (eltQ.cells ⟨na4,nc4,ns4,pq4,⟨kd4,pl4,nm4,it4,dn4,ad4,ca4,l4⟩⟩) (by simp[Act.eval]) rfl (news_at w4 _ _) (eqn_one' _) (by decide) HL1.out HL2.out (by have:=HS4.out;simp;omega) (w4.alloc (.cells (eltQ.cells ⟨na4,nc4,ns4,pq4,⟨kd4,pl4,nm4,it4,dn4,ad4,ca4,l4⟩⟩).toArray 64)).heap.size rfl ?_;intro g cap w6 hown hgr hat hlt;obtain⟨p1,p2,p3⟩:=HAft.out _ w6 hgr;have HOW:Hid _:=hown;have HGR:Hid _:=hgr;have HAT:Hid _:=hat;clear hown hgr hat)
              | (go_simp;go_wp2_with (go_at_call 99;refine(HP.out w2.drew HR2.out.drew).mono ?_;rintro r4 w4 ⟨hk4,⟨v4,rfl,x4,hview,rfl,hlx⟩,hr4,hE4⟩;have HK4:Hid (KeepsB R w2 w4):=⟨hk4.os,hk4.tape,hk4.output,hk4.size,hk4.block⟩;have HI4:Hid (InL eltQ R D 64 w xs (.slice qa xs.length qc) w4):=(HI2.out.keep HK2w.out HDd.out.2.2.1).keep HK4.out HDd.out.2.2.1;have HB4:Hid (Blk w4 N [.bool false,.string s,.int .i64 t.place,.slice ia ins.length ic,.slice oa outs.length oc,.slice va vars.length vc,.slice qa xs.length qc]):=HD2.out.keep HK4.out HNb.out.2;have HR4:Hid (RdAt W0 R t3 op w4):=hr4;have HE4:Hid (Ends t3):=hE4;have HV4:Hid (eltQ.view x4=e3):=hview;have HX4:Hid (eltQ.lies (fun k=>w2.heap.size≤k) w4 x4):=hlx;have HS4:Hid (D≤w4.heap.size):=Nat.le_trans HDw.out (Nat.le_trans HK2w.out.size HK4.out.size);have m6:w4.cell? ⟨N,6,none⟩=some (.slice qa xs.length qc):=HB4.out.get 6 rfl;have m6f:=HB4.out.2.1 6;have m6l:N<w4.heap.size:=HB4.out.2.2;have HAft:Hid (∀(ob:Obj)(w6:World),(w4.alloc ob).grownBy w6 (Value.ownBlock (.slice qa xs.length qc))→w6.cell? ⟨N,6,none⟩=some (.slice qa xs.length qc)∧w6.frozen? ⟨N,6,none⟩=false∧N<w6.heap.size):=fun ob w6 hg=>row_after (l:=[.bool false,.string s,.int .i64 t.place,.slice ia ins.length ic,.slice oa outs.length oc,.slice va vars.length vc]) HB4.out rfl HI4.out HDd.out.2.1 hg;obtain⟨⟨na4,nc4,ns4,pq4,⟨kd4,pl4,nm4,it4,dn4,ad4,ca4,l4⟩⟩,hx4⟩:∃y,y=x4:=⟨_,rfl⟩;subst hx4;clear hk4 hr4 hE4 hview hlx;simp only[Eqn.val,Eqn.cells,Ex.cells])))
            all_goals
             have HNx:Hid _:=row_next (K:=eltQ) (e:=64) (i:=6) (v:=.slice qa xs.length qc) (l:=[.bool false,.string s,.int .i64 t.place,.slice ia ins.length ic,.slice oa outs.length oc,.slice va vars.length vc]) (W0:=W0) (op:=op) (ts:=t3) (x:=⟨na4,nc4,ns4,pq4,⟨kd4,pl4,nm4,it4,dn4,ad4,ca4,l4⟩⟩) HI4.out HB4.out rfl (by have h1:=HDd.out;have h2:=HRd.out;exact⟨by omega,h1.2.1,h1.2.2.1,h1.2.2.2,by omega⟩) (HKw.out.trans (HK2w.out.trans HK4.out)) HR4.out HS4.out (eltQ.mono HX4.out fun k _ (hq:w2.heap.size≤k)=>⟨by have:=HK2w.out.size;have:=HDw.out;omega,fun he=>by have:=(HI2.out.own.lt k he.symm).2;have:=HK2w.out.size;omega⟩) g cap HOW.out HGR.out HAT.out
             have HQx:Hid (∀k,(fun k=>w.heap.size<k∧k≠N∧k<D) k→k≠N∧k<D):=fun k h=>h.2
             have HRow4:Hid (RowQ eltP (fun k=>w.heap.size<k∧k≠N∧k<D) w4 ia ic ins∧RowQ eltP (fun k=>w.heap.size<k∧k≠N∧k<D) w4 oa oc outs∧RowQ eltP (fun k=>w.heap.size<k∧k≠N∧k<D) w4 va vc vars):=⟨(HQw.out.1.keep (KeepsQ.ofB HK2w.out HRq.out)).keep (KeepsQ.ofB HK4.out HRq.out),(HQw.out.2.1.keep (KeepsQ.ofB HK2w.out HRq.out)).keep (KeepsQ.ofB HK4.out HRq.out),(HQw.out.2.2.keep (KeepsQ.ofB HK2w.out HRq.out)).keep (KeepsQ.ofB HK4.out HRq.out)⟩
             go_wp2_with fail
             go_roundw
             case rel =>
              refine⟨xs++[⟨na4,nc4,ns4,pq4,⟨kd4,pl4,nm4,it4,dn4,ad4,ca4,l4⟩⟩],_,t3,k,HNx.out.1,HNx.out.2.1,HNx.out.2.2.1,HE4.out,?_,?_,HNx.out.2.2.2.1,HNx.out.2.2.2.2.1,HRow4.out.1.keep (HNx.out.2.2.2.2.2 _ HQx.out),HRow4.out.2.1.keep (HNx.out.2.2.2.2.2 _ HQx.out),HRow4.out.2.2.keep (HNx.out.2.2.2.2.2 _ HQx.out)⟩
              ·rw[List.map_append,←HC4.out,←HV4.out];rfl
              ·have:=HFw.out
               have:=HL3.out
               simp only[List.length_append,List.length_cons,List.length_nil]
               omega
             case measure =>
              rw[HMeas.out,HNx.out.2.2.1.rest]
              exact HL3.out
end Go.Proofs.YthbgnpkgglbhjaaGreatDoor
