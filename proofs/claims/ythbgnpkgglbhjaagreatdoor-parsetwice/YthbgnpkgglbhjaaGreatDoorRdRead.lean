import Derived.Test.YthbgnpkgglbhjaaGreatDoorRdProg
import Derived.Test.YthbgnpkgglbhjaaGreatDoorErrAll
import Derived.Test.YthbgnpkgglbhjaaGreatDoorLexProgTokens
namespace Go.Proofs.YthbgnpkgglbhjaaGreatDoor
open Go.RowKit Go.Shelf
open Ex.size Ex.depth Ex.lies Ex.bulk Ex.good Ex.bare
attribute [local go_sem] tk_f0 tk_f1 tk_f2 tk_f3
def readT(qOf:List Tok→PR (List Nd))(s:ByteArray):Except (ByteArray × Nat × Int) (List Nd) :=
 if (lexOf s).2.2≠0 then .error (⟨#[110,111,32,116,111,107,101,110,115]⟩,(lexOf s).2.1,(lexOf s).2.2) else
 match qOf (lexOf s).1 with
 | .error (k,e)=>.error (⟨#[110,111,32,116,114,101,101]⟩,k,e)
 | .ok (l,ts)=>if (hd ts).kind≠0 then .error (⟨#[110,111,32,116,114,101,101]⟩,(hd ts).place,60) else if mayOf l≠0 then .error (⟨#[110,111,32,116,114,101,101]⟩,(hd ts).place,mayOf l) else .ok l
def HeadAt(w:World)(R:Nat)(t:Tok):Prop:=∃g o n cap:Nat,w.cell? ⟨R,0,none⟩=some (.slice (some ⟨g,o,none⟩) (n+1) cap)∧n+1≤cap∧w.cell? ⟨g,o,none⟩=some (.int .u8 t.kind)∧w.cell? ⟨g,o+1,none⟩=some (.string t.text)∧w.cell? ⟨g,o+2,none⟩=some (.int .i64 t.int)∧w.cell? ⟨g,o+3,none⟩=some (.int .i64 t.place)
theorem HeadAt.below{w w':World}{R:Nat}{t:Tok}(h:HeadAt w R t)(hb:Below w.heap.size w w'):HeadAt w' R t:=by
 obtain⟨g,o,n,cap,h1,h2,h3,h4,h5,h6⟩:=h
 have lR:R<w.heap.size:=World.block_lt_of_cell? w ⟨R,0,none⟩ h1
 have lg:g<w.heap.size:=World.block_lt_of_cell? w ⟨g,o,none⟩ h3
 exact⟨g,o,n,cap,(hb.cell (p:=⟨R,0,none⟩) lR).trans h1,h2,(hb.cell (p:=⟨g,o,none⟩) lg).trans h3,(hb.cell (p:=⟨g,o+1,none⟩) lg).trans h4,(hb.cell (p:=⟨g,o+2,none⟩) lg).trans h5,(hb.cell (p:=⟨g,o+3,none⟩) lg).trans h6⟩
theorem RdAt.headAt{W0:World}{R op:Nat}{t:Tok}{ts:List Tok}{w:World}(h:RdAt W0 R (t::ts) op w):HeadAt w R t:=by
 obtain⟨g,o,cap,h1,h2,e0,e1,e2,e3,-,-⟩:=h.head
 exact⟨g,o,ts.length,cap,h1,h2,e0,e1,e2,e3⟩
theorem HeadAt.set{w:World}{R p:Nat}{t:Tok}{v:Value}(h:HeadAt w R t)(hR:p≠R)(hp:∀j,w.cell? ⟨p,j,none⟩=(#[.slice none 0 0]:Array Value)[j]?):HeadAt (w.setCell ⟨p,0,none⟩ v) R t:=by
 obtain⟨g,o,n,cap,h1,h2,h3,h4,h5,h6⟩:=h
 have hg:p≠g:=fun e=>by
  subst e
  have:=(hp o).symm.trans h3
  rcases o with _|o
  ·simp at this
  ·simp at this
 have ho:∀b j,p≠b→(w.setCell ⟨p,0,none⟩ v).cell? ⟨b,j,none⟩=w.cell? ⟨b,j,none⟩:=fun b j hb=>World.cell?_of_block (Below.heap_setCell _ _ _ _ (Ne.symm hb))
 exact⟨g,o,n,cap,(ho _ _ hR).trans h1,h2,(ho _ _ hg).trans h3,(ho _ _ hg).trans h4,(ho _ _ hg).trans h5,(ho _ _ hg).trans h6⟩
set_option maxRecDepth 100000 in
set_option maxHeartbeats 1600000 in
theorem next_hd{R:Nat}{t:Tok}{w:World}(h:HeadAt w R t):Calls Tryz.prog 54 #[rp R] w fun x w'=>x=.returned (tkVal t)∧Below w.heap.size w w':=by
 obtain⟨g,o,n,cap,h1,h2,e0,e1,e2,e3⟩:=h
 have hR:R<w.heap.size:=World.block_lt_of_cell? w ⟨R,0,none⟩ h1
 have hG:g<w.heap.size:=World.block_lt_of_cell? w ⟨g,o,none⟩ e0
 simp only[rp]
 go_enter Tryz.func54,Tryz.ntmps54
 go_wp2
 refine bodyPost_ret (by simp[results,Tryz.results54,go_sem, *];try rfl) rfl ?_
 exact⟨rfl,bal _⟩
set_option maxRecDepth 100000 in
set_option maxHeartbeats 1600000 in
theorem wrong_hd{R:Nat}{t:Tok}{w:World}(e:Int)(h:HeadAt w R t):Calls Tryz.prog 55 #[rp R,.int .i64 e] w fun x w'=>x=.returned (badVal t.place e)∧Below w.heap.size w w':=by
 have CN:=next_hd h
 clear h
 simp only[rp,tkVal,tkCells] at CN ⊢
 go_enter Tryz.func55,Tryz.ntmps55
 go_wp2_with fail
 refine CN.mono ?_
 rintro x w1 ⟨rfl,hb⟩
 have HB:Hid _:=hb
 clear CN hb
 have CW:=new_calls ⟨#[110,111,32,116,114,101,101]⟩ t.place e w1
 go_wp2_with fail
 refine CW.mono ?_
 rintro x w2 ⟨rfl,hb2⟩
 have HB2:=hid (HB.out.trans (hb2.mono HB.out.size))
 clear CW hb2
 go_wp2_with fail
 go_ret
 exact⟨rfl,HB2.out⟩
def ReadPost(w:World)(res:Except (ByteArray × Nat × Int) (List Nd))(x:Ending)(w':World):Prop:=Below w.heap.size w w'∧match res with
 | .ok l=>∃v,x=.returned (.tuple #[v,.nilIface])∧IsPr w.heap.size w' l v
 | .error (why,k,e)=>x=.returned (.tuple #[.agg #[.slice none 0 0],.iface 154 (.agg #[.string why,.int .i64 k,.int .i64 e])])
set_option maxRecDepth 100000 in
set_option maxHeartbeats 12800000 in
theorem read_calls(f:Nat)(hent:Enters Tryz.prog f)(qOf:List Tok→PR (List Nd))(hwhole:∀(W0:World)(R:Nat)(ts:List Tok)(W:World),Ends ts→RdAt W0 R ts 0 W→Calls Tryz.prog f #[rp R] W (Post W0 R 0 W (qOf ts) (IsPr W.heap.size)))
  (s:ByteArray)(w:World)(hm:s.size≤1048576)(hr:RangeVar w)(ht:HasTab w)(hg:w.cell? ⟨0,0,none⟩=some (.iface 131 (.agg #[.pointer (some ⟨7,40,none⟩)])))
  (hlex:(lexOf s).2.2=0→Ends (lexOf s).1)(hmay:∀(base:Nat)(W:World)(l:List Nd)(v:Value)(ts:List Tok),qOf (lexOf s).1=.ok (l,ts)→IsPr base W l v→HasTab W→Calls Tryz.prog 56 #[v] W fun x w'=>x=.returned (.int .i64 (mayOf l))∧Below W.heap.size W w') :
  Calls Tryz.prog 27 #[.string s,.func (.func f) #[] #[]] w (ReadPost w (readT qOf s)):=by
 obtain⟨w0,hw0⟩:=nw ((w.alloc (.cells #[.slice none 0 0] 24)).alloc (.cells #[.nilIface] 40))
 obtain⟨p,hp⟩:=nw (w.heap.size)
 have hw1:(w.alloc (.cells #[.slice none 0 0] 24)).heap.size=p+1:=by rw[hp];simp
 have hb0:Below w.heap.size w w0:=by rw[hw0];exact(bal _).alloc (by simp) _
 have hs0:w0.heap.size=p+1+1:=by rw[hw0];simp[hp]
 have hP0:w0.cell? ⟨p,0,none⟩=some (.slice none 0 0)∧w0.frozen? ⟨p,0,none⟩=false:=by
  rw[hw0,hp]
  exact⟨(World.cell?_alloc_lt _ _ ⟨w.heap.size,0,none⟩ (by simp)).trans (World.cell?_alloc_at _ _ _ _ rfl),(World.frozen?_alloc_old _ _ ⟨w.heap.size,0,none⟩ (by simp)).trans (World.frozen?_alloc_at _ _ _ _ rfl)⟩
 have hE0:w0.cell? ⟨p+1,0,none⟩=some .nilIface∧w0.frozen? ⟨p+1,0,none⟩=false:=by
  rw[hw0]
  exact⟨World.cell?_alloc_at _ _ _ _ hw1.symm,World.frozen?_alloc_at _ _ _ _ hw1.symm⟩
 have HPj:Hid (∀W,Below w0.heap.size w0 W→∀j,W.cell? ⟨p,j,none⟩=(#[.slice none 0 0]:Array Value)[j]?):=fun W hb j=>(hb.cell (p:=⟨p,j,none⟩) (by show p<_;omega)).trans (by rw[hw0,hp];exact(World.cell?_alloc_lt _ _ ⟨w.heap.size,j,none⟩ (by simp)).trans (World.cell?_alloc_at _ _ _ _ rfl))
 have CL:=lexTokens_calls s w0 hm (hr.below hb0)
 have HW0:=hid hw0.symm
 have HB0:=hid hb0
 have HS0:=hid hs0
 have HPE:Hid (∀W,Below w0.heap.size w0 W→W.cell? ⟨p,0,none⟩=some (.slice none 0 0)∧W.frozen? ⟨p,0,none⟩=false∧W.cell? ⟨p+1,0,none⟩=some .nilIface∧W.frozen? ⟨p+1,0,none⟩=false∧p<W.heap.size∧p+1<W.heap.size):=fun W hb=>⟨(hb.cell (p:=⟨p,0,none⟩) (by show p<_;omega)).trans hP0.1,(hb.frozen (p:=⟨p,0,none⟩) (by show p<_;omega)).trans hP0.2,(hb.cell (p:=⟨p+1,0,none⟩) (by show p+1<_;omega)).trans hE0.1,(hb.frozen (p:=⟨p+1,0,none⟩) (by show p+1<_;omega)).trans hE0.2,by have:=hb.size;omega,by have:=hb.size;omega⟩
 have HTab:=hid ht
 have HG:=hid hg
 have HLex:=hid hlex
 have HMay:=hid hmay
 have HWh:=hid hwhole
 have hent':∀args W,(callFunc f args).run Tryz.prog W=.ok (.enter f args) W:=hent
 have HRes:Hid (readT qOf s=if (lexOf s).2.2≠0 then .error (⟨#[110,111,32,116,111,107,101,110,115]⟩,(lexOf s).2.1,(lexOf s).2.2) else
   match qOf (lexOf s).1 with
   | .error (k,e)=>.error (⟨#[110,111,32,116,114,101,101]⟩,k,e)
   | .ok (l,ts)=>if (hd ts).kind≠0 then .error (⟨#[110,111,32,116,114,101,101]⟩,(hd ts).place,60) else if mayOf l≠0 then .error (⟨#[110,111,32,116,114,101,101]⟩,(hd ts).place,mayOf l) else .ok l):=rfl
 generalize readT qOf s=res at HRes ⊢
 have HP:=hid hp.symm
 clear hwhole hent hm hr ht hg hlex hmay hw0 hw1 hb0 hs0 hP0 hE0 hp
 generalize (lexOf s).2.2=er at *
 generalize (lexOf s).2.1=ek at *
 generalize (lexOf s).1=toks at *
 by_cases her:er=0
 ·subst her
  have HRes1:Hid (res=match qOf toks with
   | .error (k,e)=>.error (⟨#[110,111,32,116,114,101,101]⟩,k,e)
   | .ok (l,ts)=>if (hd ts).kind≠0 then .error (⟨#[110,111,32,116,114,101,101]⟩,(hd ts).place,60) else if mayOf l≠0 then .error (⟨#[110,111,32,116,114,101,101]⟩,(hd ts).place,mayOf l) else .ok l):=HRes.out.trans (if_neg fun h=>h rfl)
  have HEnds:Hid (Ends toks):=HLex.out rfl
  rw[if_pos rfl] at CL
  clear HRes HLex
  go_enter_defers Tryz.func27,Tryz.ntmps27
  go_wp2_with fail
  rw[HW0.out]
  simp only[HP.out]
  refine CL.mono ?_
  rintro x w1 ⟨v,rfl,hown,hb⟩
  have hne:0<toks.length:=by obtain⟨t,r,e⟩:=HEnds.out.ne;rw[e];simp
  obtain⟨gv,capv,rfl,-,-⟩:=hown.form hne
  clear hne
  have HB1:=hid hb
  have HOwn:=hid hown
  obtain⟨c0,g0,c1,g1,l0,l1⟩:=HPE.out w1 hb
  clear CL hb hown
  go_wp2_with fail
  have HB1w:=hid (HB0.out.trans (HB1.out.mono HB0.out.size))
  obtain⟨w2,hw2⟩:=nw (w1.setCell ⟨p+1,0,none⟩ .nilIface)
  have hs2:w2.heap.size=w1.heap.size:=by rw[hw2];simp
  have HS2:=hid hs2
  have HPw:Hid (w0.heap.size=p+1+1∧w0.heap.size≤w1.heap.size):=⟨HS0.out,HB1.out.size⟩
  have HB2:Hid (Below w.heap.size w w2):=by rw[Hid,hw2];exact HB1w.out.setCell (p:=⟨p+1,0,none⟩) (by rw[HP.out];exact Nat.le_succ p) _
  have HE2:Hid (w2.cell? ⟨p,0,none⟩=some (.slice none 0 0)∧w2.frozen? ⟨p,0,none⟩=false∧w2.cell? ⟨p+1,0,none⟩=some .nilIface∧w2.frozen? ⟨p+1,0,none⟩=false):=by
   rw[Hid,hw2]
   exact⟨(World.cell?_setCell_other _ _ _ _ (by simp)).trans c0,by simpa using g0,World.cell?_setCell_same _ _ _ c1,by simpa using g1⟩
  have HPj2:Hid (∀j,w2.cell? ⟨p,j,none⟩=(#[.slice none 0 0]:Array Value)[j]?):=fun j=>by rw[hw2];exact(World.cell?_of_block (Below.heap_setCell _ _ _ _ (show p≠p+1 by omega))).trans (HPj.out w1 HB1.out j)
  have HOw2:Hid (w2.ownsRow w0.heap.size 72 4 (.slice (some ⟨gv,0,none⟩) toks.length capv) toks.length (toksCells toks)):=by rw[Hid,hw2];exact ownsRow_setCell_below HOwn.out (a:=⟨p+1,0,none⟩) (show p+1<w0.heap.size by have:=HS0.out;omega) _
  have HW2:=hid hw2.symm
  have CS:=signs_calls w2
  clear hw2 c0 g0 c1 g1 l0 l1 hs2
  rw[HW2.out]
  refine CS.mono ?_
  rintro x w3 ⟨rfl,hsg,hb3,hlt3⟩
  obtain⟨w4,hw4⟩:=nw (w3.alloc (.cells #[.slice (some ⟨gv,0,none⟩) toks.length capv,.int .i64 0,.map (some w2.heap.size)] 106))
  obtain⟨R,hR⟩:=nw (w3.heap.size)
  have hb4:Below w3.heap.size w3 w4:=by rw[hw4];exact bal _
  have hb24:=hb3.trans (hb4.mono hb3.size)
  have HB4:=hid (HB2.out.trans (hb24.mono HB2.out.size))
  have HRp:Hid (p+1<R∧w.heap.size≤R∧R<w4.heap.size):=by
   have h1:=HPw.out
   have h2:=HS2.out
   have h3:=hb3.size
   have h4:w4.heap.size=w3.heap.size+1:=by rw[hw4];simp
   have h5:=HP.out
   exact⟨by omega,by omega,by omega⟩
  have HE4:Hid (w4.cell? ⟨p,0,none⟩=some (.slice none 0 0)∧w4.frozen? ⟨p,0,none⟩=false∧w4.cell? ⟨p+1,0,none⟩=some .nilIface∧w4.frozen? ⟨p+1,0,none⟩=false):=by
   have h1:=HPw.out
   have h2:=HS2.out
   have l0:p<w2.heap.size:=by omega
   have l1:p+1<w2.heap.size:=by omega
   exact⟨(hb24.cell (p:=⟨p,0,none⟩) l0).trans HE2.out.1,(hb24.frozen (p:=⟨p,0,none⟩) l0).trans HE2.out.2.1,(hb24.cell (p:=⟨p+1,0,none⟩) l1).trans HE2.out.2.2.1,(hb24.frozen (p:=⟨p+1,0,none⟩) l1).trans HE2.out.2.2.2⟩
  have HPj4:Hid (∀j,w4.cell? ⟨p,j,none⟩=(#[.slice none 0 0]:Array Value)[j]?):=fun j=>(hb24.cell (p:=⟨p,j,none⟩) (show p<w2.heap.size by have h1:=HPw.out;have h2:=HS2.out;omega)).trans (HPj2.out j)
  have HRd4:Hid (RdAt w4 R toks 0 w4):=by
   have hne:0<toks.length:=by obtain⟨t,r,e⟩:=HEnds.out.ne;rw[e];simp
   have hown4:=row_keep HOw2.out hb24
   have hg2:gv<w4.heap.size:=(hown4.lt gv rfl).2
   have hc:∀j,w4.cell? ⟨R,j,none⟩=(#[.slice (some ⟨gv,0,none⟩) toks.length capv,.int .i64 0,.map (some w2.heap.size)]:Array Value)[j]?:=fun j=>by rw[hw4];exact World.cell?_alloc_at _ _ _ _ hR
   have hf:∀j,w4.frozen? ⟨R,j,none⟩=false:=fun j=>by rw[hw4];exact World.frozen?_alloc_at _ _ _ _ hR
   have hgw:gv<w2.heap.size:=by
    have:=HOw2.out.lt gv rfl
    exact this.2
   have hcap:toks.length≤capv:=by
    rcases hown4.2 with⟨h1,_⟩|⟨g',cap',cur,h1,_,_,h2,_⟩
    ·cases h1
    ·simp only[Value.slice.injEq,Option.some.injEq,Addr.mk.injEq,true_and] at h1
     rw[h1.2];exact h2
   have h3:=hb3.size
   refine⟨KeepsB.refl _ _,⟨gv,0,capv,hc 0,hcap,by omega,hg2,fun i h j hj=>?_⟩,hc 1,⟨w2.heap.size,hc 2,hsg.keep (hb4.block _ hlt3),by omega⟩,hf 0,hf 1,HRp.out.2.2,by omega⟩
   rw[Nat.zero_add,hown4.cellAt (i*4+j) (by omega)]
   exact toksCells_at toks i h j hj
  have HTab4:Hid (∀W,Below w.heap.size w W→HasTab W):=fun W hb=>HTab.out.below hb
  have HW4:=hid hw4.symm
  have HKB:Hid (∀W,KeepsB R w4 W→Below w.heap.size w W):=fun W hk=>⟨hk.os.trans HB4.out.os,hk.tape.trans HB4.out.tape,hk.output.trans HB4.out.output,Nat.le_trans HB4.out.size hk.size,fun k hl=>(hk.block k (Nat.lt_of_lt_of_le hl HB4.out.size) (by have:=HRp.out.2.1;omega)).trans (HB4.out.block k hl)⟩
  have HCat:Hid (∀(W:World)(v0:Value)(k:Nat)(e:Int),W.cell? ⟨p,0,none⟩=some v0→W.frozen? ⟨p,0,none⟩=false→W.cell? ⟨p+1,0,none⟩=some .nilIface→W.frozen? ⟨p+1,0,none⟩=false→Below w.heap.size w W→CallsD Tryz.prog 51 #[.pointer (some ⟨p,0,none⟩),.pointer (some ⟨p+1,0,none⟩)] (.panicking [{ v:=.iface 154 (.agg #[.string ⟨#[110,111,32,116,114,101,101]⟩,.int .i64 k,.int .i64 e]),recovered:=false }]) W fun e' u' w'=>e'=.returned (.tuple #[])∧u'=.panicking [{ v:=.iface 154 (.agg #[.string ⟨#[110,111,32,116,114,101,101]⟩,.int .i64 k,.int .i64 e]),recovered:=true }]∧w'.cell? ⟨p,0,none⟩=some (.slice none 0 0)∧w'.cell? ⟨p+1,0,none⟩=some (.iface 154 (.agg #[.string ⟨#[110,111,32,116,114,101,101]⟩,.int .i64 k,.int .i64 e]))∧Below w.heap.size w w'):=fun W v0 k e h1 h2 h3 h4 h5=>by
   have hlt:0<w.heap.size:=by
    have hg:=HG.out
    rcases Nat.eq_zero_or_pos w.heap.size with h|h
    ·simp[World.cell?,h] at hg
    ·exact h
   refine(catch_rd p (p+1) ⟨#[110,111,32,116,114,101,101]⟩ k e v0 .nilIface W h1 h2 h3 h4 (Nat.ne_of_lt (Nat.lt_succ_self p)) ((h5.cell (p:=⟨0,0,none⟩) hlt).trans HG.out)).mono ?_
   rintro e' u' w' ⟨rfl,rfl,wF,hbF,rfl⟩
   have lp:p<W.heap.size:=World.block_lt_of_cell? W ⟨p,0,none⟩ h1
   have lq:p+1<W.heap.size:=World.block_lt_of_cell? W ⟨p+1,0,none⟩ h3
   have k1:=(hbF.cell (p:=⟨p,0,none⟩) lp).trans h1
   have k3:=(hbF.cell (p:=⟨p+1,0,none⟩) lq).trans h3
   refine⟨rfl,rfl,?_,World.cell?_setCell_same _ _ _ ((World.cell?_setCell_other _ _ _ _ (by simp)).trans k3),?_⟩
   ·rw[World.cell?_setCell_other _ _ _ _ (by simp)]
    exact World.cell?_setCell_same _ _ _ k1
   ·exact((h5.trans (hbF.mono h5.size)).setCell (p:=⟨p,0,none⟩) (by rw[HP.out];exact Nat.le_refl _) _).setCell (p:=⟨p+1,0,none⟩) (by rw[HP.out];exact Nat.le_succ p) _
  have CW:=HWh.out w4 R toks w4 HEnds.out HRd4.out
  have HEx:Hid (∀W,KeepsB R w4 W→W.cell? ⟨p,0,none⟩=some (.slice none 0 0)∧W.frozen? ⟨p,0,none⟩=false∧W.cell? ⟨p+1,0,none⟩=some .nilIface∧W.frozen? ⟨p+1,0,none⟩=false∧p<W.heap.size∧p+1<W.heap.size):=fun W hk=>by
   have h1:=HRp.out
   have l0:p<w4.heap.size:=by omega
   have l1:p+1<w4.heap.size:=by omega
   have n0:p≠R:=by omega
   have n1:p+1≠R:=by omega
   exact⟨(hk.cell l0 n0).1.trans HE4.out.1,(hk.cell l0 n0).2.trans HE4.out.2.1,(hk.cell l1 n1).1.trans HE4.out.2.2.1,(hk.cell l1 n1).2.trans HE4.out.2.2.2,Nat.lt_of_lt_of_le l0 hk.size,Nat.lt_of_lt_of_le l1 hk.size⟩
  clear CS hsg hb3 hlt3 hb4 hb24 hw4 HWh
  go_wp2_with fail
  rw[HW4.out]
  simp only[←hR]
  clear hR
  refine CW.mono ?_
  rintro x w5 ⟨hk5,hp5⟩
  have HK5:=hid hk5
  clear CW hk5
  cases hq:qOf toks with
  | error er =>
   obtain⟨kk,ee⟩:=er
   rw[hq] at hp5 HRes1
   obtain⟨rfl,t2,hr2⟩:=hp5
   have HResE:=hid (HRes1.out)
   clear hr2 HRes1 hq HMay
   go_wp2_with fail
   refine leaves_cons (f:=51) (args:=#[.pointer (some ⟨p,0,none⟩),.pointer (some ⟨p+1,0,none⟩)]) (by simp) (by simp[go_sem]) ?_
   refine(HCat.out w5 _ kk ee (HEx.out w5 HK5.out).1 (HEx.out w5 HK5.out).2.1 (HEx.out w5 HK5.out).2.2.1 (HEx.out w5 HK5.out).2.2.2.1 (HKB.out w5 HK5.out)).mono ?_
   rintro e' u' wE ⟨rfl,rfl,z0,z1,hbE⟩
   have HPost:Hid (ReadPost w res (.returned (.tuple #[.agg #[.slice none 0 0],.iface 154 (.agg #[.string ⟨#[110,111,32,116,114,101,101]⟩,.int .i64 kk,.int .i64 ee])])) wE):=by
    rw[Hid,HResE.out]
    exact⟨hbE,rfl⟩
   clear hbE
   simp[Leaves,settle,results,Tryz.results27,go_sem,z0,z1]
   exact HPost.out
  | ok pr =>
   obtain⟨l,t2⟩:=pr
   have HQ:=hid hq
   rw[hq] at hp5 HRes1
   obtain⟨⟨v,rfl,xs,a,cap,hxs,rfl,hrow⟩,hr5,hE5⟩:=hp5
   have HRes2:=hid (HRes1.out)
   obtain⟨u,r2,rfl⟩:=hE5.ne
   obtain⟨w6,hw6⟩:=nw (w5.setCell ⟨p,0,none⟩ (.slice a xs.length cap))
   obtain⟨c0,g0,c1,g1,l0,l1⟩:=HEx.out w5 HK5.out
   have HB6:Hid (Below w.heap.size w w6):=by rw[Hid,hw6];exact(HKB.out w5 HK5.out).setCell (p:=⟨p,0,none⟩) (by rw[HP.out];exact Nat.le_refl _) _
   have HD6:Hid (w6.cell? ⟨p,0,none⟩=some (.slice a xs.length cap)∧w6.frozen? ⟨p,0,none⟩=false∧w6.cell? ⟨p+1,0,none⟩=some .nilIface∧w6.frozen? ⟨p+1,0,none⟩=false∧p<w6.heap.size∧p+1<w6.heap.size):=by
    rw[Hid,hw6]
    exact⟨World.cell?_setCell_same _ _ _ c0,by simpa using g0,(World.cell?_setCell_other _ _ _ _ (by simp)).trans c1,by simpa using g1,by simpa using l0,by simpa using l1⟩
   have HH6:Hid (HeadAt w6 R u):=by
    rw[Hid,hw6]
    exact hr5.headAt.set (by have:=HRp.out;omega) fun j=>(HK5.out.cell (show p<w4.heap.size by have:=HRp.out;omega) (show p≠R by have:=HRp.out;omega)).1.trans (HPj4.out j)
   have HPr:Hid (RowQ eltN (fun k=>p+1<k) w6 a cap xs):=by
    rw[Hid,hw6]
    exact(hrow.mono fun k _ (h:w4.heap.size≤k)=>show p+1<k by have:=HRp.out;omega).keep (KeepsQ.set fun h=>by have:p+1<p:=h;omega)
   have HXs:=hid hxs
   have HRes3:=hid (HRes2.out)
   have HW6:=hid hw6.symm
   have HLater:Hid (∀W,Below w6.heap.size w6 W→W.cell? ⟨p,0,none⟩=some (.slice a xs.length cap)∧W.frozen? ⟨p,0,none⟩=false∧W.cell? ⟨p+1,0,none⟩=some .nilIface∧W.frozen? ⟨p+1,0,none⟩=false∧p<W.heap.size∧p+1<W.heap.size∧Below w.heap.size w W):=fun W hb=>⟨(hb.cell (p:=⟨p,0,none⟩) HD6.out.2.2.2.2.1).trans HD6.out.1,(hb.frozen (p:=⟨p,0,none⟩) HD6.out.2.2.2.2.1).trans HD6.out.2.1,(hb.cell (p:=⟨p+1,0,none⟩) HD6.out.2.2.2.2.2).trans HD6.out.2.2.1,(hb.frozen (p:=⟨p+1,0,none⟩) HD6.out.2.2.2.2.2).trans HD6.out.2.2.2.1,Nat.lt_of_lt_of_le HD6.out.2.2.2.2.1 hb.size,Nat.lt_of_lt_of_le HD6.out.2.2.2.2.2 hb.size,HB6.out.trans (hb.mono HB6.out.size)⟩
   have CN:=next_hd HH6.out
   clear hq hrow hr5 hE5 hxs hw6 HRes1 HRes2
   simp only[rp,tkVal,tkCells] at CN
   go_wp2_with fail
   rw[HW6.out]
   clear c0 g0 c1 g1 l0 l1
   refine CN.mono ?_
   rintro x w7 ⟨rfl,hb7⟩
   have HB7:=hid hb7
   obtain⟨c0,g0,c1,g1,l0,l1,-⟩:=HLater.out w7 hb7
   clear CN hb7
   by_cases hk:u.kind=0
   ·have HRes4:Hid (res=if mayOf l≠0 then .error (⟨#[110,111,32,116,114,101,101]⟩,u.place,mayOf l) else .ok l):=HRes3.out.trans (if_neg fun h=>h hk)
    have CM := HMay.out 0 w7 l (.agg #[.slice a xs.length cap]) (u :: r2) HQ.out ⟨xs, a, cap, HXs.out, rfl, (HPr.out.keep (KeepsQ.ofBelow HB7.out)).mono fun k _ _ => Nat.zero_le _⟩ (HTab4.out w7 (HLater.out w7 HB7.out).2.2.2.2.2.2)
    rw[hk]
    clear HRes3 hk
    by_cases hmo:mayOf l=0
    ·rw[hmo] at CM
     have HRes5:Hid (res=.ok l):=HRes4.out.trans (if_neg fun h=>h hmo)
     clear HRes4 hmo
     go_wp2_with fail
     refine CM.mono ?_
     rintro x w8 ⟨rfl,hb8⟩
     have HB8:=hid (HB7.out.trans (hb8.mono HB7.out.size))
     clear CM hb8 c0 g0 c1 g1 l0 l1
     obtain⟨c0,g0,c1,g1,l0,l1,-⟩:=HLater.out w8 HB8.out
     go_wp2_with fail
     obtain⟨w9,hw9⟩:=nw ((w8.setCell ⟨p,0,none⟩ (.slice a xs.length cap)).setCell ⟨p+1,0,none⟩ .nilIface)
     have z0:w9.cell? ⟨p,0,none⟩=some (.slice a xs.length cap):=by rw[hw9,World.cell?_setCell_other _ _ _ _ (by simp)];exact World.cell?_setCell_same _ _ _ c0
     have z1:w9.cell? ⟨p+1,0,none⟩=some .nilIface:=by rw[hw9];exact World.cell?_setCell_same _ _ _ (by rw[World.cell?_setCell_other _ _ _ _ (by simp)];exact c1)
     have hB8:=(HLater.out w8 HB8.out).2.2.2.2.2.2
     have hB9:Below w.heap.size w w9:=by rw[hw9];exact(hB8.setCell (p:=⟨p,0,none⟩) (by rw[HP.out];exact Nat.le_refl _) _).setCell (p:=⟨p+1,0,none⟩) (by rw[HP.out];exact Nat.le_succ p) _
     have hQ9:RowQ eltN (fun k=>p+1<k) w9 a cap xs:=by
      rw[hw9]
      exact((HPr.out.keep (KeepsQ.ofBelow HB8.out)).keep (KeepsQ.set fun h=>by have h':p+1<p:=h;omega)).keep (KeepsQ.set fun h=>Nat.lt_irrefl _ h)
     have hI9:IsPr w.heap.size w9 l (.agg #[.slice a xs.length cap]):=⟨xs,a,cap,HXs.out,rfl,hQ9.mono fun k _ (h:p+1<k)=>show w.heap.size≤k by rw[HP.out];omega⟩
     have HPost:Hid (ReadPost w res (.returned (.tuple #[.agg #[.slice a xs.length cap],.nilIface])) w9):=by
      rw[Hid,HRes5.out]
      exact⟨hB9,_,rfl,hI9⟩
     rw[←hw9]
     clear hw9 c0 g0 c1 g1 l0 l1 hB8 hB9 hQ9 hI9
     refine leaves_cons (f:=51) (args:=#[.pointer (some ⟨p,0,none⟩),.pointer (some ⟨p+1,0,none⟩)]) (by simp) (by simp[go_sem]) ?_
     refine(catch_idle p (p+1) w9).mono ?_
     rintro e' u' wE ⟨rfl,rfl,rfl⟩
     simp[Leaves,settle,results,Tryz.results27,go_sem,z0,z1]
     exact HPost.out
    ·have HResE:=hid (HRes4.out.trans (if_pos hmo))
     generalize mayOf l=mo at *
     have hmb:=beq_false_of_ne hmo
     clear HRes4
     go_wp2_with fail
     refine CM.mono ?_
     rintro x w8 ⟨rfl,hb8⟩
     have HB8:=hid (HB7.out.trans (hb8.mono HB7.out.size))
     clear CM hb8 c0 g0 c1 g1 l0 l1
     have CW:=wrong_hd mo (HH6.out.below HB8.out)
     simp only[rp,badVal] at CW
     go_wp2_with fail
     refine CW.mono ?_
     rintro x w9 ⟨rfl,hb9⟩
     have HB9:=hid (HB8.out.trans (hb9.mono HB8.out.size))
     clear CW hb9
     obtain⟨c0,g0,c1,g1,l0,l1,hB⟩:=HLater.out w9 HB9.out
     go_wp2_with fail
     refine leaves_cons (f:=51) (args:=#[.pointer (some ⟨p,0,none⟩),.pointer (some ⟨p+1,0,none⟩)]) (by simp) (by simp[go_sem]) ?_
     refine(HCat.out w9 _ u.place mo c0 g0 c1 g1 hB).mono ?_
     rintro e' u' wE ⟨rfl,rfl,z0,z1,hbE⟩
     have HPost:Hid (ReadPost w res (.returned (.tuple #[.agg #[.slice none 0 0],.iface 154 (.agg #[.string ⟨#[110,111,32,116,114,101,101]⟩,.int .i64 u.place,.int .i64 mo])])) wE):=by
      rw[Hid,HResE.out]
      exact⟨hbE,rfl⟩
     clear hbE
     simp[Leaves,settle,results,Tryz.results27,go_sem,z0,z1]
     exact HPost.out
   ·have HResE:=hid (HRes3.out.trans (if_pos hk))
    have hkb:=beq_false_of_ne hk
    have CW:=wrong_hd 60 (HH6.out.below HB7.out)
    clear HRes3
    simp only[rp,badVal] at CW
    go_wp2_with fail
    refine CW.mono ?_
    rintro x w8 ⟨rfl,hb8⟩
    have HB8:=hid (HB7.out.trans (hb8.mono HB7.out.size))
    clear CW hb8 c0 g0 c1 g1 l0 l1
    obtain⟨c0,g0,c1,g1,l0,l1,hB⟩:=HLater.out w8 HB8.out
    go_wp2_with fail
    refine leaves_cons (f:=51) (args:=#[.pointer (some ⟨p,0,none⟩),.pointer (some ⟨p+1,0,none⟩)]) (by simp) (by simp[go_sem]) ?_
    refine(HCat.out w8 _ u.place 60 c0 g0 c1 g1 hB).mono ?_
    rintro e' u' wE ⟨rfl,rfl,z0,z1,hbE⟩
    have HPost:Hid (ReadPost w res (.returned (.tuple #[.agg #[.slice none 0 0],.iface 154 (.agg #[.string ⟨#[110,111,32,116,114,101,101]⟩,.int .i64 u.place,.int .i64 60])])) wE):=by
     rw[Hid,HResE.out]
     exact⟨hbE,rfl⟩
    clear hbE
    simp[Leaves,settle,results,Tryz.results27,go_sem,z0,z1]
    exact HPost.out
 ·rw[if_neg her] at CL
  have HRes1:=hid (HRes.out.trans (if_pos her))
  clear her HRes HLex HMay HWh
  simp only[wrongVal] at CL
  go_enter_defers Tryz.func27,Tryz.ntmps27
  go_wp2_with fail
  rw[HW0.out]
  simp only[HP.out]
  refine CL.mono ?_
  rintro x w1 ⟨v,rfl,-,hb⟩
  have HB1:=hid hb
  obtain⟨c0,g0,c1,g1,l0,l1⟩:=HPE.out w1 hb
  clear CL hb
  go_wp2_with fail
  obtain⟨w2,hw2⟩:∃w2:World,w2=w1.setCell ⟨p+1,0,none⟩ (.iface 154 (.agg #[.string ⟨#[110,111,32,116,111,107,101,110,115]⟩,.int .i64 ek,.int .i64 er])):=⟨_,rfl⟩
  have d0:w2.cell? ⟨p,0,none⟩=some (.slice none 0 0):=by rw[hw2,World.cell?_setCell_other _ _ _ _ (by simp)];exact c0
  have e0:w2.frozen? ⟨p,0,none⟩=false:=by rw[hw2];simpa using g0
  have d1:w2.cell? ⟨p+1,0,none⟩=some (.iface 154 (.agg #[.string ⟨#[110,111,32,116,111,107,101,110,115]⟩,.int .i64 ek,.int .i64 er])):=by rw[hw2];exact World.cell?_setCell_same _ _ _ c1
  have e1:w2.frozen? ⟨p+1,0,none⟩=false:=by rw[hw2];simpa using g1
  have l2:p<w2.heap.size:=by rw[hw2];simpa using l0
  have l3:p+1<w2.heap.size:=by rw[hw2];simpa using l1
  have HB2:Hid (Below w.heap.size w w2):=by rw[Hid,hw2];exact(HB0.out.trans (HB1.out.mono HB0.out.size)).setCell (p:=⟨p+1,0,none⟩) (by rw[HP.out];exact Nat.le_succ p) _
  rw[←hw2]
  clear hw2 c0 g0 c1 g1 l0 l1
  go_region
  all_goals go_wp2_with fail
  all_goals
   refine⟨_,by simp[results,Tryz.results27,go_sem, *];try rfl,?_⟩
  all_goals
   show ReadPost w res _ _
   rw[HRes1.out]
   have hb9:Below w.heap.size w (((w2.setCell ⟨p,0,none⟩ (.slice none 0 0)).setCell ⟨p+1,0,none⟩ (.iface 154 (.agg #[.string ⟨#[110,111,32,116,111,107,101,110,115]⟩,.int .i64 ek,.int .i64 er]))).drew):=by
    have h0:=(HB2.out.setCell (p:=⟨p,0,none⟩) (by rw[HP.out];exact Nat.le_refl _) (.slice none 0 0)).setCell (p:=⟨p+1,0,none⟩) (by rw[HP.out];exact Nat.le_succ p) (.iface 154 (.agg #[.string ⟨#[110,111,32,116,111,107,101,110,115]⟩,.int .i64 ek,.int .i64 er]))
    exact⟨h0.os,h0.tape,h0.output,h0.size,h0.block⟩
   exact⟨hb9,rfl⟩
end Go.Proofs.YthbgnpkgglbhjaaGreatDoor
