import Derived.Test.YthbgnpkgglbhjaaGreatDoorRdRead
namespace Go.Proofs.YthbgnpkgglbhjaaGreatDoor
open Go.RowKit
open Ex.size Ex.depth Ex.lies Ex.bulk Ex.good Ex.shape Ex.bare
attribute [local go_sem] later_size later_cell later_frozen later_setCell later_drew later_drewN later_tape drewN_setCell drewN_alloc drewN_later later_later lt_more lt_more1 lt_more2 lt_more3 lt_more4 lk0_0_1 lk1_0_1 lk2_0_1 lk0_0_2 lk1_0_2 lk2_0_2 lk0_1_2 lk0_0_3 lk1_0_3 lk2_0_3 lk0_1_3 lk0_2_3 lk0_0_4 lk1_0_4 lk2_0_4 lk0_1_4 lk0_2_4 lk0_3_4 lk0_0_5 lk1_0_5 lk2_0_5 lk0_1_5 lk0_2_5 lk0_3_5 lk0_4_5 lk0_0_6 lk1_0_6 lk2_0_6 lk0_1_6 lk0_2_6 lk0_3_6 lk0_4_6 lk0_5_6 lk0_0_7 lk1_0_7 lk2_0_7 lk0_1_7 lk0_2_7 lk0_3_7 lk0_4_7 lk0_5_7 lk0_6_7
theorem bares_length(l:List Ex):(bares l).length=l.length:=by rw[bares_map,List.length_map]
theorem bare_size:∀e:Ex,e.bare.size=e.size
 | .mk _ _ _ _ _ _ _ l=>by simp only[Ex.bare,Ex.size,all l]
where all:∀l:List Ex,sizes (bares l)=sizes l
 | []=>rfl
 | e::r=>by simp only[bares,sizes,bare_size e,all r]
theorem bare_depth:∀e:Ex,e.bare.depth=e.depth
 | .mk _ _ _ _ _ _ _ l=>by simp only[Ex.bare,Ex.depth,all l]
where all:∀l:List Ex,deepest (bares l)=deepest l
 | []=>rfl
 | e::r=>by simp only[bares,deepest,bare_depth e,all r]
theorem bare_bulk:∀e:Ex,e.bare.bulk=e.bulk
 | .mk _ _ _ _ _ _ _ l=>by simp only[Ex.bare,Ex.bulk,all l]
where all:∀l:List Ex,bulks (bares l)=bulks l
 | []=>rfl
 | e::r=>by simp only[bares,bulks,bare_bulk e,all r]
theorem bare_shape:∀e:Ex,e.bare.shape=e.shape
 | .mk _ _ _ _ _ _ _ l=>by simp only[Ex.bare,Ex.shape,all l,bares_length]
where all:∀l:List Ex,shapes (bares l)=shapes l
 | []=>rfl
 | e::r=>by simp only[bares,shapes,bare_shape e,all r]
theorem eqSizes_bare(l:List Eqn):eqSizes (l.map Eqn.bare)=eqSizes l:=by
 induction l with
 | nil=>rfl
 | cons q r ih=>simp only[List.map_cons,eqSizes,ih,Eqn.bare,bare_size]
theorem eqDeep_bare(l:List Eqn):eqDeep (l.map Eqn.bare)=eqDeep l:=by
 induction l with
 | nil=>rfl
 | cons q r ih=>simp only[List.map_cons,eqDeep,ih,Eqn.bare,bare_depth]
theorem eqBulks_bare(l:List Eqn):eqBulks (l.map Eqn.bare)=eqBulks l:=by
 induction l with
 | nil=>rfl
 | cons q r ih=>simp only[List.map_cons,eqBulks,ih,Eqn.bare,bare_bulk]
theorem ndSizes_bare(l:List Nd):ndSizes (l.map Nd.bare)=ndSizes l:=by
 induction l with
 | nil=>rfl
 | cons n r ih=>simp only[List.map_cons,ndSizes,ih,Nd.bare,eqSizes_bare]
theorem ndDeep_bare(l:List Nd):ndDeep (l.map Nd.bare)=ndDeep l:=by
 induction l with
 | nil=>rfl
 | cons n r ih=>simp only[List.map_cons,ndDeep,ih,Nd.bare,eqDeep_bare]
theorem ndBulks_bare(l:List Nd):ndBulks (l.map Nd.bare)=ndBulks l:=by
 induction l with
 | nil=>rfl
 | cons n r ih=>simp only[List.map_cons,ndBulks,ih,Nd.bare,eqBulks_bare]
theorem fewB_bare(n:Nd):fewB n.bare=fewB n:=by simp only[fewB,Nd.bare,List.length_map]
theorem eqB_bare(q:Eqn):eqB q.bare=eqB q:=by
 have h:(decide (1≤q.ns.length∧q.ns.length≤32)&&q.ns.all nameB&&q.e.bare.shape)=(decide (1≤q.ns.length∧q.ns.length≤32)&&q.ns.all nameB&&q.e.shape):=by rw[bare_shape]
 exact h
theorem ndB_bare(n:Nd):ndB n.bare=ndB n:=by
 have h:(n.eqs.map Eqn.bare).all eqB=n.eqs.all eqB:=by
  rw[List.all_map]
  congr 1
  exact funext eqB_bare
 simp only[ndB,Nd.bare,h]
theorem may_bare(l:List Nd):mayOf (l.map Nd.bare)=mayOf l:=by
 have h1:(l.map Nd.bare).all fewB=l.all fewB:=by
  rw[List.all_map]
  congr 1
  exact funext fewB_bare
 have h2:(l.map Nd.bare).all ndB=l.all ndB:=by
  rw[List.all_map]
  congr 1
  exact funext ndB_bare
 simp only[mayOf,h1,h2,ndDeep_bare,ndSizes_bare,List.length_map]
theorem eqSizes_bulks(l:List Eqn):eqSizes l≤eqBulks l:=by
 induction l with
 | nil=>exact Nat.le_refl _
 | cons q r ih=>have:=size_bulk q.e;simp only[eqSizes,eqBulks];omega
theorem ndSizes_bulks(l:List Nd):ndSizes l≤ndBulks l:=by
 induction l with
 | nil=>exact Nat.le_refl _
 | cons q r ih=>have:=eqSizes_bulks q.eqs;simp only[ndSizes,ndBulks];omega
theorem eqBulks_mem{l:List Eqn}{q:Eqn}(h:q∈l):q.e.bulk≤eqBulks l:=by
 induction l with
 | nil=>cases h
 | cons x r ih =>
  simp only[eqBulks]
  rcases List.mem_cons.1 h with rfl|h
  ·omega
  ·have:=ih h;omega
theorem ndBulks_mem{l:List Nd}{n:Nd}(h:n∈l):eqBulks n.eqs≤ndBulks l:=by
 induction l with
 | nil=>cases h
 | cons x r ih =>
  simp only[ndBulks]
  rcases List.mem_cons.1 h with rfl|h
  ·omega
  ·have:=ih h;omega
theorem KeepsQ.refl(Q:Nat→Prop)(w:World):KeepsQ Q w w:=⟨Nat.le_refl _,fun _ _ _=>rfl⟩
theorem rowQ_in{α β:Type}{K:Elt α β}{Q:Nat→Prop}{w:World}{a:Option Addr}{cap:Nat}{xs:List β}(h:RowQ K Q w a cap xs):rowIn K.cells K.z w a xs:=fun hne=>by
 obtain⟨g,h1,-,h2,h3⟩:=h.2.2.2.1 hne
 exact⟨g,0,h1,h2,fun i hi j hj=>by rw[Nat.zero_add];exact h3 i hi j hj⟩
theorem eq_lies{Q:Nat→Prop}{w:World}{q:Eqn}(h:eltQ.lies Q w q):q.lies w:=⟨rowQ_in h.1,h.2.1 w (KeepsQ.refl Q w)⟩
theorem eq_good{Q:Nat→Prop}{w:World}{q:Eqn}(h:eltQ.lies Q w q)(hb:q.e.bulk≤1048576):q.good :=
 ⟨fun s hs=>Nat.le_trans (h.1.2.2.2.2 s hs) (by decide),Nat.le_trans h.1.2.2.1 (by decide),h.2.2.1,hb⟩
theorem pms_good{Q:Nat→Prop}{w:World}{a:Option Addr}{cap:Nat}{l:List Pm}(h:RowQ eltP Q w a cap l):l.length≤1048576∧∀p∈l,p.nm.size≤1048576 :=
 ⟨Nat.le_trans h.2.2.1 (by decide),fun p hp=>Nat.le_trans (h.2.2.2.2 p hp).1 (by decide)⟩
theorem nd_lies{Q:Nat→Prop}{w:World}{n:Nd}(h:eltN.lies Q w n):n.lies w :=
 ⟨rowQ_in h.1,rowQ_in h.2.1,rowQ_in h.2.2.1,rowQ_in h.2.2.2.1,fun q hq=>eq_lies (h.2.2.2.1.2.2.2.2 q hq)⟩
theorem rd_nd_good{Q:Nat→Prop}{w:World}{n:Nd}(h:eltN.lies Q w n)(hb:eqBulks n.eqs≤1048576):n.good :=
 ⟨Nat.le_trans h.2.2.2.2.1 (by decide),(pms_good h.1).1,(pms_good h.2.1).1,(pms_good h.2.2.1).1,Nat.le_trans h.2.2.2.1.2.2.1 (by decide),(pms_good h.1).2,(pms_good h.2.1).2,(pms_good h.2.2.1).2,fun q hq=>eq_good (h.2.2.2.1.2.2.2.2 q hq) (Nat.le_trans (eqBulks_mem hq) hb)⟩
theorem row_prog{Q:Nat→Prop}{w:World}{a:Option Addr}{cap:Nat}{xs:List Nd}(h:RowQ eltN Q w a cap xs)(hb:ndBulks xs≤1048576):Lie w a xs∧Goods xs :=
 ⟨⟨rowQ_in h,fun n hn=>nd_lies (h.2.2.2.2 n hn)⟩,fun n hn=>rd_nd_good (h.2.2.2.2 n hn) (Nat.le_trans (ndBulks_mem hn) hb),Nat.le_trans h.2.2.1 (by decide),Nat.le_trans (ndSizes_bulks xs) hb⟩
theorem may_read(base:Nat)(w:World)(l:List Nd)(v:Value)(hb:ndBulks l≤1048576)(hp:IsPr base w l v)(ht:HasTab w):Calls Tryz.prog 56 #[v] w fun x w'=>x=.returned (.int .i64 (mayOf l))∧Below w.heap.size w w':=by
 obtain⟨xs,a,cap,rfl,rfl,hr⟩:=hp
 rw[ndBulks_bare] at hb
 rw[may_bare]
 obtain⟨h1,h2⟩:=row_prog hr hb
 exact may_prog xs a cap h2 w h1 ht
open Go.Shelf
def wholeT(ts:List Tok):PR (List Nd):=nodesL (13*ts.length+13) 0 (13*ts.length+13) [] ts
def progT(s:ByteArray):Except (ByteArray × Nat × Int) (List Nd):=readT wholeT s
theorem whole_nof(ts:List Tok):NoF (wholeT ts):=nodes_nof _ 0 _ [] ts (Nat.le_refl _) (by omega)
theorem whole_bulks{ts:List Tok}{l:List Nd}{t2:List Tok}(h:wholeT ts=.ok (l,t2)):ndBulks l≤wt ts:=by
 have:=nodes_wt _ 0 _ [] ts _ _ h
 simp only[ndBulks] at this
 omega
theorem whole_rd(W0:World)(R:Nat)(ts:List Tok)(W:World)(hE:Ends ts)(hr:RdAt W0 R ts 0 W):Calls Tryz.prog 28 #[rp R] W (Post W0 R 0 W (wholeT ts) (IsPr W.heap.size)) :=
 program_rd _ 0 ts W hE hr _ rfl (whole_nof ts)
set_option maxRecDepth 100000 in
theorem readProgram_calls(s:ByteArray)(w:World)(hm:s.size≤1048576)(hr:RangeVar w)(ht:HasTab w)(hg:w.cell? ⟨0,0,none⟩=some (.iface 131 (.agg #[.pointer (some ⟨7,40,none⟩)]))) :
  Calls Tryz.prog 27 #[.string s,.func (.func 28) #[] #[]] w (ReadPost w (progT s)):=by
 refine read_calls _ (enters_of rfl rfl rfl) wholeT whole_rd s w hm hr ht hg (fun h=>(lex_ends s h).1) fun base W l v ts hq hp hT=>?_
 by_cases h:(lexOf s).2.2=0
 ·exact may_read base W l v (Nat.le_trans (whole_bulks hq) (Nat.le_trans (lex_ends s h).2 (by decide))) hp hT
 ·exact may_read base W l v (Nat.le_trans (whole_bulks hq) (by rw[lex_err h];exact Nat.zero_le _)) hp hT
theorem ReadPost.form{w w':World}{res:Except (ByteArray × Nat × Int) (List Nd)}{x:Ending}(h:ReadPost w res x w'):∃a n c b,x=.returned (.tuple #[.agg #[.slice a n c],b]):=by
 obtain⟨-,h⟩:=h
 cases res with
 | ok l =>
  obtain⟨v,rfl,xs,a,cap,-,rfl,-⟩:=h
  exact⟨_,_,_,_,rfl⟩
 | error r =>
  obtain⟨a,b,c⟩:=r
  exact⟨_,_,_,_,h⟩
theorem ReadPost.after{w w0 w':World}{res:Except (ByteArray × Nat × Int) (List Nd)}{x:Ending}{p:Nat}{v:Value}(h:ReadPost w0 res x w')(hb:Below w.heap.size w w0)(hp:w.heap.size≤p)(hp2:p<w0.heap.size):ReadPost w res x (w'.setCell ⟨p,0,none⟩ v):=by
 obtain⟨h1,h2⟩:=h
 refine⟨(hb.trans (h1.mono hb.size)).setCell (p:=⟨p,0,none⟩) hp v,?_⟩
 cases res with
 | ok l =>
  obtain⟨v',rfl,xs,a,cap,hx,rfl,hr⟩:=h2
  exact⟨_,rfl,xs,a,cap,hx,rfl,(hr.keep (KeepsQ.set fun h=>by have h':w0.heap.size≤p:=h;omega)).mono fun k _ hk=>Nat.le_trans hb.size hk⟩
 | error r =>
  obtain⟨a,b,c⟩:=r
  exact h2
set_option maxRecDepth 100000 in
set_option maxHeartbeats 3200000 in
theorem program_calls(s:ByteArray)(w:World)(hm:s.size≤1048576)(hr:RangeVar w)(ht:HasTab w)(hg:w.cell? ⟨0,0,none⟩=some (.iface 131 (.agg #[.pointer (some ⟨7,40,none⟩)]))) :
  Calls Tryz.prog 12 #[.string s] w (ReadPost w (progT s)):=by
 obtain⟨w0,hw0⟩:=nw (w.alloc (.cells #[.slice none 0 0] 24))
 obtain⟨p,hp⟩:=nw (w.heap.size)
 have hb0:Below w.heap.size w w0:=by rw[hw0];exact bal _
 have hs0:p<w0.heap.size:=by rw[hw0,hp];simp
 have hc0:w0.cell? ⟨p,0,none⟩=some (.slice none 0 0)∧w0.frozen? ⟨p,0,none⟩=false:=by
  rw[hw0,hp]
  exact⟨World.cell?_alloc_at _ _ _ _ rfl,World.frozen?_alloc_at _ _ _ _ rfl⟩
 have CR:=readProgram_calls s w0 hm (hr.below hb0) (ht.below hb0) ((hb0.cell (p:=⟨0,0,none⟩) (World.block_lt_of_cell? w ⟨0,0,none⟩ hg)).trans hg)
 have HP:=hid hp
 have HW0:=hid hw0.symm
 have HC:Hid (∀W,Below w0.heap.size w0 W→W.cell? ⟨p,0,none⟩=some (.slice none 0 0)∧W.frozen? ⟨p,0,none⟩=false):=fun W hb=>⟨(hb.cell (p:=⟨p,0,none⟩) hs0).trans hc0.1,(hb.frozen (p:=⟨p,0,none⟩) hs0).trans hc0.2⟩
 have HA:Hid (∀x w' v,ReadPost w0 (progT s) x w'→ReadPost w (progT s) x (w'.setCell ⟨p,0,none⟩ v)):=fun x w' v h=>h.after hb0 (by rw[hp];exact Nat.le_refl _) hs0
 have HF:Hid (∀x w',ReadPost w0 (progT s) x w'→∃a n c b,x=.returned (.tuple #[.agg #[.slice a n c],b])):=fun x w' h=>h.form
 clear hr ht hg hm hb0 hs0 hc0 hp hw0
 go_enter Tryz.func12,Tryz.ntmps12
 go_wp2_with fail
 rw[HW0.out,←HP.out]
 refine CR.mono ?_
 rintro x w1 h1
 obtain⟨a,n,c,b,rfl⟩:=HF.out x w1 h1
 have HA1:=fun v=>HA.out _ _ v h1
 obtain⟨c0,g0⟩:=HC.out w1 h1.1
 have HA2:=hid HA1
 clear CR h1 HA1
 go_wp2_with fail
 refine bodyPost_ret (v:=.tuple #[.agg #[.slice a n c],b]) (by simp[results,Tryz.results12,go_sem,c0];try rfl) rfl ?_
 exact HA2.out _
def oneOf(e:Ex):List Nd:=[⟨false,⟨#[110]⟩,0,none,0,[],none,0,[],none,0,[],none,0,[⟨none,0,[⟨#[120]⟩],0,e⟩]⟩]
def oneT(ts:List Tok):PR (List Nd):=(pp (13*ts.length+13) 0 0 ts).then fun e t2=>.ok (oneOf e,t2)
theorem row_nil{α β:Type}{K:Elt α β}{Q:Nat→Prop}{w:World}:RowQ K Q w none 0 []:=⟨Nat.le_refl _,Nat.zero_le _,Nat.zero_le _,fun h=>absurd rfl h,fun x hx=>by cases hx⟩
theorem row_one{α β:Type}{K:Elt α β}{Q:Nat→Prop}{w:World}{g:Nat}{x:β}(hc:∀j,j<K.z→w.cell? ⟨g,j,none⟩=(K.cells x)[j]?)(hQ:Q g)(hl:g<w.heap.size)(hx:K.lies Q w x):RowQ K Q w (some ⟨g,0,none⟩) 1 [x] :=
 ⟨Nat.le_refl _,by unfold maxLen;omega,by show 1≤100001;omega,fun _=>⟨g,rfl,hQ,hl,fun i hi j hj=>by
  have hi:i<1:=hi
  obtain rfl:i=0:=by omega
  rw[Nat.zero_mul,Nat.zero_add]
  exact hc j hj⟩,fun y hy=>by rw[List.mem_singleton.1 hy];exact hx⟩
set_option maxRecDepth 100000 in
set_option maxHeartbeats 12800000 in
theorem one_rd(W0:World)(R:Nat)(ts:List Tok)(w:World)(hE:Ends ts)(hrd:RdAt W0 R ts 0 w) :
  Calls Tryz.prog 33 #[rp R] w (Post W0 R 0 w (oneT ts) (IsPr w.heap.size)):=by
 obtain⟨w0,hw0⟩:∃w0:World,w0=(w.alloc (.cells #[.slice none 0 0] 24)).alloc (.cells #[.string ⟨#[120]⟩] 9):=⟨_,rfl⟩
 obtain⟨p,hp⟩:=nw (w.heap.size)
 have hs1:(w.alloc (.cells #[.slice none 0 0] 24)).heap.size=p+1:=by rw[hp];simp
 have hb0:Below w.heap.size w w0:=by rw[hw0];exact(bal _).alloc (by simp) _
 have hs0:w0.heap.size=p+1+1:=by rw[hw0];simp[hp]
 have HPb:Hid (Blk w0 p [.slice none 0 0]):=by
  have h:=Blk.made w [.slice none 0 0] 24
  rw[←hp] at h
  rw[Hid,hw0]
  exact h.block (Below.heap_alloc _ _ _ (by omega)) (by simp)
 have HNb:Hid (Blk w0 (p+1) [.string ⟨#[120]⟩]):=by
  have h:=Blk.made (w.alloc (.cells #[.slice none 0 0] 24)) [.string ⟨#[120]⟩] 9
  rw[hs1] at h
  rw[Hid,hw0]
  exact h
 have HP:=hid hp
 have HRlt:Hid (R<p∧W0.heap.size≤p):=⟨by rw[hp];exact hrd.lt,by rw[hp];exact hrd.keeps.size⟩
 have HW0:=hid hw0.symm
 have HB0:=hid hb0
 have HS0:=hid hs0
 have CE:=expr_all 0 ts w0 hE (hrd.below hb0) (13*ts.length+13) (Nat.le_refl _)
 have HRes:Hid (oneT ts=(pp (13*ts.length+13) 0 0 ts).then fun e t2=>.ok (oneOf e,t2)):=rfl
 generalize pp (13*ts.length+13) 0 0 ts=q at CE HRes
 generalize oneT ts=res at HRes ⊢
 clear hE hrd hw0 hb0 hs0 hp hs1
 simp only[rp] at CE ⊢
 go_enter Tryz.func33,Tryz.ntmps33
 go_wp2_with fail
 rw[HW0.out,←HP.out]
 refine CE.mono ?_
 rintro x w1 ⟨hk1,h1⟩
 have HK1:=hid hk1
 clear CE hk1
 cases q with
 | error er =>
  obtain⟨kk,ee⟩:=er
  obtain⟨rfl,t2,hr2⟩:=h1
  have HRE:Hid _:=hr2
  have HResE:Hid (res=.error (kk,ee)):=HRes.out
  clear hr2
  go_wp2_with fail
  rw[HResE.out]
  exact⟨rfl,(KeepsB.ofBelow HB0.out).trans HK1.out,rfl,t2,HRE.out⟩
 | ok pr =>
  obtain⟨e,t2⟩:=pr
  obtain⟨⟨v,rfl,⟨kx,px,nx,ix,dx,ax,cx,lx⟩,hx,rfl,hlx,hgx⟩,hr2,hE2⟩:=h1
  have HR1:=hid hr2
  have HE1:=hid hE2
  have HX:Hid (Ex.bare (.mk kx px nx ix dx ax cx lx)=e∧Lies (fun k=>w0.heap.size≤k) w1 (.mk kx px nx ix dx ax cx lx)∧Ex.good (.mk kx px nx ix dx ax cx lx)):=⟨hx,hlx,hgx⟩
  have HResK:Hid (res=.ok (oneOf e,t2)):=HRes.out
  have HPb1:Hid (Blk w1 p [.slice none 0 0]):=HPb.out.keep HK1.out (by have:=HRlt.out;omega)
  have HNb1:Hid (Blk w1 (p+1) [.string ⟨#[120]⟩]):=HNb.out.keep HK1.out (by have:=HRlt.out;omega)
  clear hx hlx hgx hr2 hE2
  have c0:=HPb1.out.get 0 rfl
  have g0:=HPb1.out.2.1 0
  have l0:=HPb1.out.2.2
  have hz1:p≠w1.heap.size:=by omega
  have hz2:p≠w1.heap.size+1:=by omega
  have hz3:p≠w1.heap.size+1+1:=by omega
  simp only[Ex.val,Ex.cells,List.toArray]
  go_wp2_with fail
  clear c0 g0 hz1 hz2 hz3
  obtain⟨w2,hw2⟩:=nw (w1.setCell ⟨p,0,none⟩ (.slice (some ⟨w1.heap.size+1+1,0,none⟩) 1 1))
  have hs2:w2.heap.size=w1.heap.size:=by rw[hw2];simp
  have hPb2:Blk w2 p [.slice (some ⟨w1.heap.size+1+1,0,none⟩) 1 1]:=by rw[hw2];exact HPb1.out.set (i:=0) (by decide) _
  have hNb2:Blk w2 (p+1) [.string ⟨#[120]⟩]:=by rw[hw2];exact HNb1.out.other (by omega) _
  have hR2:RdAt W0 R t2 0 w2:=by rw[hw2];exact HR1.out.set0 HRlt.out.2 _
  have hK2:KeepsB R w w2:=by rw[hw2];exact((KeepsB.ofBelow HB0.out).trans HK1.out).new (by rw[HP.out];exact Nat.le_refl _)
  have hX2:=HX.out.2.1.keep (w':=w2) (by rw[hw2];exact KeepsQ.set (by have:=HS0.out;omega))
  rw[←hw2,←hs2]
  rw[←hs2] at hPb2
  clear hw2
  obtain⟨w3,hw3⟩:=nw (w2.alloc (.cells #[.slice (some ⟨p+1,0,none⟩) 1 1,.int .i64 0,.int .u8 kx,.int .i64 px,.string nx,.int .i64 ix,.int .i64 dx,.slice ax lx.length cx] 64))
  obtain⟨w4,hw4⟩:=nw (w3.alloc (.cells #[.slice (some ⟨p+1,0,none⟩) 1 1,.int .i64 0,.int .u8 kx,.int .i64 px,.string nx,.int .i64 ix,.int .i64 dx,.slice ax lx.length cx] 64))
  obtain⟨w5,hw5⟩:∃w5:World,w5=w4.alloc (.cells #[.bool false,.string ⟨#[110]⟩,.int .i64 0,.slice none 0 0,.slice none 0 0,.slice none 0 0,.slice (some ⟨w2.heap.size+1,0,none⟩) 1 1] 60):=⟨_,rfl⟩
  have hs3:w3.heap.size=w2.heap.size+1:=by rw[hw3];simp
  have hs4:w4.heap.size=w2.heap.size+1+1:=by rw[hw4];simp[hs3]
  have hE4:Blk w4 (w2.heap.size+1) [.slice (some ⟨p+1,0,none⟩) 1 1,.int .i64 0,.int .u8 kx,.int .i64 px,.string nx,.int .i64 ix,.int .i64 dx,.slice ax lx.length cx]:=by
   have h:=Blk.made w3 [.slice (some ⟨p+1,0,none⟩) 1 1,.int .i64 0,.int .u8 kx,.int .i64 px,.string nx,.int .i64 ix,.int .i64 dx,.slice ax lx.length cx] 64
   rw[hs3] at h
   rw[hw4];exact h
  have hG5:Blk w5 (w2.heap.size+1+1) [.bool false,.string ⟨#[110]⟩,.int .i64 0,.slice none 0 0,.slice none 0 0,.slice none 0 0,.slice (some ⟨w2.heap.size+1,0,none⟩) 1 1]:=by
   have h:=Blk.made w4 [.bool false,.string ⟨#[110]⟩,.int .i64 0,.slice none 0 0,.slice none 0 0,.slice none 0 0,.slice (some ⟨w2.heap.size+1,0,none⟩) 1 1] 60
   rw[hs4] at h
   rw[hw5];exact h
  have hb23:Below w2.heap.size w2 w3:=by rw[hw3];exact bal _
  have hb24:Below w2.heap.size w2 w4:=by rw[hw4];exact hb23.alloc hb23.size _
  have hb25:Below w2.heap.size w2 w5:=by rw[hw5];exact hb24.alloc hb24.size _
  have hb45:Below w4.heap.size w4 w5:=by rw[hw5];exact bal _
  have hE5:Blk w5 (w2.heap.size+1) _:=hE4.block (hb45.block _ hE4.2.2) hb45.size
  have hP5:Blk w5 p _:=hPb2.block (hb25.block _ hPb2.2.2) hb25.size
  have hN5:Blk w5 (p+1) _:=hNb2.block (hb25.block _ hNb2.2.2) hb25.size
  have hX5:Lies (fun k=>w.heap.size≤k) w5 (.mk kx px nx ix dx ax cx lx):=(hX2.keep (KeepsQ.ofBelow hb25)).mono fun k _ hk=>Nat.le_trans HB0.out.size hk
  have hpw:w.heap.size≤p:=by rw[HP.out];exact Nat.le_refl _
  have hNl:=hNb2.2.2
  have hq:eltQ.lies (fun k=>w.heap.size≤k) w5 ⟨some ⟨p+1,0,none⟩,1,[⟨#[120]⟩],0,.mk kx px nx ix dx ax cx lx⟩ :=
   ⟨row_one (K:=eltS) (fun j hj=>hN5.1 j hj) (show w.heap.size≤p+1 by omega) hN5.2.2 (show(1:Nat)≤1000000 by decide),hX5,HX.out.2.2,show(Lit.int .i64 0).wf=true by decide⟩
  have hn:eltN.lies (fun k=>w.heap.size≤k) w5 ⟨false,⟨#[110]⟩,0,none,0,[],none,0,[],none,0,[],some ⟨w2.heap.size+1,0,none⟩,1,[⟨some ⟨p+1,0,none⟩,1,[⟨#[120]⟩],0,.mk kx px nx ix dx ax cx lx⟩]⟩ :=
   ⟨row_nil,row_nil,row_nil,row_one (K:=eltQ) (fun j hj=>hE5.1 j hj) (show w.heap.size≤w2.heap.size+1 by omega) hE5.2.2 hq,show(1:Nat)≤1000000 by decide,show(Lit.int .i64 0).wf=true by decide⟩
  have hI:IsPr w.heap.size w5 (oneOf e) (.agg #[.slice (some ⟨w2.heap.size+1+1,0,none⟩) 1 1]) :=
   ⟨[⟨false,⟨#[110]⟩,0,none,0,[],none,0,[],none,0,[],some ⟨w2.heap.size+1,0,none⟩,1,[⟨some ⟨p+1,0,none⟩,1,[⟨#[120]⟩],0,.mk kx px nx ix dx ax cx lx⟩]⟩],_,1,by rw[←HX.out.1];rfl,rfl,row_one (K:=eltN) (fun j hj=>hG5.1 j hj) (show w.heap.size≤w2.heap.size+1+1 by omega) hG5.2.2 hn⟩
  have HFin:Hid (Post W0 R 0 w res (IsPr w.heap.size) (.returned (.agg #[.slice (some ⟨w2.heap.size+1+1,0,none⟩) 1 1])) w5):=by
   rw[Hid,HResK.out]
   exact⟨hK2.trans (KeepsB.ofBelow hb25),⟨_,rfl,hI⟩,hR2.below hb25,HE1.out⟩
  rw[←hw3,←hw4,←hw5]
  have z0:=hP5.get 0 rfl
  exact bodyPost_ret (by simp[results,Tryz.results33,go_sem,z0];try rfl) rfl HFin.out
theorem one_bulks{ts:List Tok}{l:List Nd}{t2:List Tok}(h:oneT ts=.ok (l,t2)):ndBulks l≤wt ts:=by
 unfold oneT at h
 cases hq:pp (13*ts.length+13) 0 0 ts with
 | error r=>rw[hq] at h;cases h
 | ok r =>
  obtain⟨e,t3⟩:=r
  rw[hq] at h
  simp only[PR.then,Except.ok.injEq,Prod.mk.injEq] at h
  have:=pp_wt _ 0 0 ts _ _ hq
  rw[←h.1]
  simp only[oneOf,ndBulks,eqBulks]
  omega
def oneRT(s:ByteArray):Except (ByteArray × Nat × Int) (List Nd):=readT oneT s
set_option maxRecDepth 100000 in
theorem readOne_calls(s:ByteArray)(w:World)(hm:s.size≤1048576)(hr:RangeVar w)(ht:HasTab w)(hg:w.cell? ⟨0,0,none⟩=some (.iface 131 (.agg #[.pointer (some ⟨7,40,none⟩)]))) :
  Calls Tryz.prog 27 #[.string s,.func (.func 33) #[] #[]] w (ReadPost w (oneRT s)):=by
 refine read_calls _ (enters_of rfl rfl rfl) oneT one_rd s w hm hr ht hg (fun h=>(lex_ends s h).1) fun base W l v ts hq hp hT=>?_
 by_cases h:(lexOf s).2.2=0
 ·exact may_read base W l v (Nat.le_trans (one_bulks hq) (Nat.le_trans (lex_ends s h).2 (by decide))) hp hT
 ·exact may_read base W l v (Nat.le_trans (one_bulks hq) (by rw[lex_err h];exact Nat.zero_le _)) hp hT
theorem oneRT_ok{s:ByteArray}{l:List Nd}(h:oneRT s=.ok l):∃e,l=oneOf e:=by
 unfold oneRT readT at h
 split at h
 ·cases h
 ·split at h
  ·cases h
  ·rename_i l' ts hq
   split at h
   ·cases h
   ·split at h
    ·cases h
    ·simp only[Except.ok.injEq] at h
     subst h
     unfold oneT at hq
     cases hp:pp (13*(lexOf s).1.length+13) 0 0 (lexOf s).1 with
     | error r=>rw[hp] at hq;cases hq
     | ok r =>
      obtain⟨e,t3⟩:=r
      rw[hp] at hq
      simp only[PR.then,Except.ok.injEq,Prod.mk.injEq] at hq
      exact⟨e,hq.1.symm⟩
def ExPost(w:World)(res:Except (ByteArray × Nat × Int) (List Nd))(x:Ending)(w':World):Prop:=Below w.heap.size w w'∧match res with
 | .ok l=>∃e v,l=oneOf e∧x=.returned (.tuple #[v,.nilIface])∧IsEx w.heap.size w' e v
 | .error (why,k,e)=>x=.returned (.tuple #[.agg #[.int .u8 0,.int .i64 0,.string ⟨#[]⟩,.int .i64 0,.int .i64 0,.slice none 0 0],.iface 154 (.agg #[.string why,.int .i64 k,.int .i64 e])])
theorem map_one{α β:Type}{f:α→β}{l:List α}{y:β}(h:l.map f=[y]):∃x,l=[x]∧f x=y:=by
 cases l with
 | nil=>simp at h
 | cons x r =>
  cases r with
  | nil=>exact⟨x,rfl,by simpa using h⟩
  | cons z r=>simp at h
theorem one_open{base:Nat}{w:World}{e:Ex}{v:Value}(h:IsPr base w (oneOf e) v):∃(g g2 c1:Nat)(n:Nd)(q:Eqn),v=.agg #[.slice (some ⟨g,0,none⟩) 1 c1]∧1≤c1∧1≤n.qc∧(g<w.heap.size∧g2<w.heap.size∧base≤g∧base≤g2)∧(∀j,j<7→w.cell? ⟨g,j,none⟩=n.cells[j]?)∧n.qa=some ⟨g2,0,none⟩∧n.eqs=[q]∧(∀j,j<8→w.cell? ⟨g2,j,none⟩=q.cells[j]?)∧q.e.bare=e∧Lies (fun k=>base≤k) w q.e∧q.e.good:=by
 obtain⟨xs,a,cap,hx,rfl,h1,h2,h3,h4,h5⟩:=h
 obtain⟨n,rfl,hn⟩:=map_one hx
 obtain⟨g,rfl,hgb,hg,hc⟩:=h4 (by simp)
 obtain⟨-,-,-,⟨q1,q2,q3,q4,q5⟩,-⟩:=h5 n (by simp)
 have he:n.eqs.map Eqn.bare=[⟨none,0,[⟨#[120]⟩],0,e⟩]:=by rw[show n.eqs.map Eqn.bare=n.bare.eqs from rfl,show n.bare=_ from hn]
 obtain⟨q,hq,hqe⟩:=map_one he
 obtain⟨g2,ha,hgb2,hg2,hc2⟩:=q4 (by rw[hq];simp)
 have hql:=q5 q (by rw[hq];simp)
 have hqb:q.e.bare=e:=by
  have:q.bare.e=e:=by rw[hqe]
  exact this
 refine⟨g,g2,cap,n,q,rfl,h1,by rw[hq] at q1;exact q1,⟨hg,hg2,hgb,hgb2⟩,fun j hj=>?_,ha,hq,fun j hj=>?_,hqb,hql.2.1,hql.2.2.1⟩
 ·have:=hc 0 (by simp) j hj
  rw[Nat.zero_mul,Nat.zero_add] at this
  exact this
 ·have:=hc2 0 (by rw[hq];simp) j hj
  rw[Nat.zero_mul,Nat.zero_add] at this
  simp only[hq,List.getElem_cons_zero] at this
  exact this
set_option maxRecDepth 100000 in
set_option maxHeartbeats 6400000 in
theorem expr_calls(s:ByteArray)(w:World)(hm:s.size≤1048576)(hr:RangeVar w)(ht:HasTab w)(hg:w.cell? ⟨0,0,none⟩=some (.iface 131 (.agg #[.pointer (some ⟨7,40,none⟩)]))) :
  Calls Tryz.prog 15 #[.string s] w (ExPost w (oneRT s)):=by
 obtain⟨w0,hw0⟩:∃w0:World,w0=w.alloc (.cells #[.int .u8 0,.int .i64 0,.string ⟨#[]⟩,.int .i64 0,.int .i64 0,.slice none 0 0] 27):=⟨_,rfl⟩
 obtain⟨p,hp⟩:=nw (w.heap.size)
 have hb0:Below w.heap.size w w0:=by rw[hw0];exact bal _
 have hs0:w0.heap.size=p+1:=by rw[hw0];simp[hp]
 have HPb:Hid (Blk w0 p [.int .u8 0,.int .i64 0,.string ⟨#[]⟩,.int .i64 0,.int .i64 0,.slice none 0 0]):=by
  have h:=Blk.made w [.int .u8 0,.int .i64 0,.string ⟨#[]⟩,.int .i64 0,.int .i64 0,.slice none 0 0] 27
  rw[←hp] at h
  rw[Hid,hw0]
  exact h
 have HP:=hid hp
 have HW0:=hid hw0.symm
 have HB0:=hid hb0
 have HS0:=hid hs0
 have CR:=readOne_calls s w0 hm (hr.below hb0) (ht.below hb0) ((hb0.cell (p:=⟨0,0,none⟩) (World.block_lt_of_cell? w ⟨0,0,none⟩ hg)).trans hg)
 have HRes:Hid (∀l,oneRT s=.ok l→∃e,l=oneOf e):=fun l h=>oneRT_ok h
 generalize oneRT s=res at CR HRes ⊢
 clear hr ht hg hm hb0 hs0 hp hw0
 go_enter Tryz.func15,Tryz.ntmps15
 go_wp2_with fail
 rw[HW0.out,←HP.out]
 refine CR.mono ?_
 rintro x w1 ⟨hb1,h1⟩
 have HB1:=hid hb1
 have HPb1:Hid (Blk w1 p [.int .u8 0,.int .i64 0,.string ⟨#[]⟩,.int .i64 0,.int .i64 0,.slice none 0 0]):=HPb.out.block (hb1.block _ HPb.out.2.2) hb1.size
 have HAll:Hid (∀W,Below w1.heap.size w1 W→W.cell? ⟨p,0,none⟩=some (.int .u8 0)∧W.frozen? ⟨p,0,none⟩=false∧W.cell? ⟨p,1,none⟩=some (.int .i64 0)∧W.frozen? ⟨p,1,none⟩=false∧W.cell? ⟨p,2,none⟩=some (.string ⟨#[]⟩)∧W.frozen? ⟨p,2,none⟩=false∧W.cell? ⟨p,3,none⟩=some (.int .i64 0)∧W.frozen? ⟨p,3,none⟩=false∧W.cell? ⟨p,4,none⟩=some (.int .i64 0)∧W.frozen? ⟨p,4,none⟩=false∧W.cell? ⟨p,5,none⟩=some (.slice none 0 0)∧W.frozen? ⟨p,5,none⟩=false):=by
  have h:∀W,Below w1.heap.size w1 W→Blk W p _:=fun W hb=>HPb1.out.block (hb.block _ HPb1.out.2.2) hb.size
  exact fun W hb=>⟨(h W hb).get 0 rfl,(h W hb).2.1 0,(h W hb).get 1 rfl,(h W hb).2.1 1,(h W hb).get 2 rfl,(h W hb).2.1 2,(h W hb).get 3 rfl,(h W hb).2.1 3,(h W hb).get 4 rfl,(h W hb).2.1 4,(h W hb).get 5 rfl,(h W hb).2.1 5⟩
 have hnp:p≠w1.heap.size:=by have:=HPb1.out.2.2;omega
 have HBw1:=hid (HB0.out.trans (HB1.out.mono HB0.out.size))
 clear CR hb1
 cases res with
 | error er =>
  obtain⟨why,kk,ee⟩:=er
  obtain rfl:x=_:=h1
  go_wp2_with (obtain⟨W2,hW2⟩:∃W2:World,W2=w1.alloc (.cells #[.slice none 0 0] 24):=⟨_,rfl⟩;rw[←hW2];have hbW:Below w1.heap.size w1 W2:=(by rw[hW2];exact bal _);obtain⟨d0,g0,d1,g1,d2,g2,d3,g3,d4,g4,d5,g5⟩:=HAll.out W2 hbW;have HBW:Hid (Below w1.heap.size w1 W2):=hbW;have dL:W2.cell? ⟨w1.heap.size,0,none⟩=some (.slice none 0 0):=(by rw[hW2];exact World.cell?_alloc_at _ _ _ _ rfl);have gL:W2.frozen? ⟨w1.heap.size,0,none⟩=false:=(by rw[hW2];exact World.frozen?_alloc_at _ _ _ _ rfl);clear hW2 hbW)
  have hpw:w.heap.size≤p:=by rw[HP.out];exact Nat.le_refl _
  have hB2:=HBw1.out.trans (HBW.out.mono HBw1.out.size)
  have hBf:=((((((hB2.setCell (p:=⟨w1.heap.size,0,none⟩) HBw1.out.size (.slice none 0 0)).setCell (p:=⟨p,0,none⟩) hpw (.int .u8 0)).setCell (p:=⟨p,1,none⟩) hpw (.int .i64 0)).setCell (p:=⟨p,2,none⟩) hpw (.string ⟨#[]⟩)).setCell (p:=⟨p,3,none⟩) hpw (.int .i64 0)).setCell (p:=⟨p,4,none⟩) hpw (.int .i64 0)).setCell (p:=⟨p,5,none⟩) hpw (.slice none 0 0)
  exact bodyPost_ret (v:=.tuple #[.agg #[.int .u8 0,.int .i64 0,.string ⟨#[]⟩,.int .i64 0,.int .i64 0,.slice none 0 0],.iface 154 (.agg #[.string why,.int .i64 kk,.int .i64 ee])]) (by simp[results,Tryz.results15,go_sem, *];try rfl) rfl ⟨hBf,rfl⟩
 | ok l =>
  obtain⟨e,rfl⟩:=HRes.out l rfl
  obtain⟨v,rfl,hI⟩:=h1
  obtain⟨g,g2,cq,⟨fl,nm,pl,ia,ic,ins,oa,oc,outs,va,vc,vars,qa,qc,eqs⟩,⟨na,nc,ns,pq,⟨kx,px,nx,ix,dx,ax,cx,lx⟩⟩,rfl,l1,l2,⟨hg,hg2,hgb,hgb2⟩,hc,hqa,heq,hc2,hx,hlx,hgx⟩:=one_open hI
  simp only at hqa heq l2
  subst hqa heq
  have HX:Hid (Ex.bare (.mk kx px nx ix dx ax cx lx)=e∧Lies (fun k=>w0.heap.size≤k) w1 (.mk kx px nx ix dx ax cx lx)∧Ex.good (.mk kx px nx ix dx ax cx lx)):=⟨hx,hlx,hgx⟩
  have hne1:g≠w1.heap.size:=by omega
  have hne2:g2≠w1.heap.size:=by omega
  have hne3:g≠p:=by have:=HS0.out;omega
  have hne4:g2≠p:=by have:=HS0.out;omega
  have HN6:Hid (w1.cell? ⟨g,6,none⟩=some (.slice (some ⟨g2,0,none⟩) 1 qc)):=hc 6 (by decide)
  have HE2:Hid (w1.cell? ⟨g2,2,none⟩=some (.int .u8 kx)):=hc2 2 (by decide)
  have HE3:Hid (w1.cell? ⟨g2,3,none⟩=some (.int .i64 px)):=hc2 3 (by decide)
  have HE4:Hid (w1.cell? ⟨g2,4,none⟩=some (.string nx)):=hc2 4 (by decide)
  have HE5:Hid (w1.cell? ⟨g2,5,none⟩=some (.int .i64 ix)):=hc2 5 (by decide)
  have HE6:Hid (w1.cell? ⟨g2,6,none⟩=some (.int .i64 dx)):=hc2 6 (by decide)
  have HE7:Hid (w1.cell? ⟨g2,7,none⟩=some (.slice ax lx.length cx)):=hc2 7 (by decide)
  clear hI hc hc2 hx hlx hgx hgb hgb2
  go_wp2_with (obtain⟨W2,hW2⟩:∃W2:World,W2=w1.alloc (.cells #[.slice none 0 0] 24):=⟨_,rfl⟩;rw[←hW2];have hbW:Below w1.heap.size w1 W2:=(by rw[hW2];exact bal _);obtain⟨d0,f0,d1,f1,d2,f2,d3,f3,d4,f4,d5,f5⟩:=HAll.out W2 hbW;have HBW:Hid (Below w1.heap.size w1 W2):=hbW;have dL:W2.cell? ⟨w1.heap.size,0,none⟩=some (.slice none 0 0):=(by rw[hW2];exact World.cell?_alloc_at _ _ _ _ rfl);have gL:W2.frozen? ⟨w1.heap.size,0,none⟩=false:=(by rw[hW2];exact World.frozen?_alloc_at _ _ _ _ rfl);have n6:W2.cell? ⟨g,6,none⟩=some (.slice (some ⟨g2,0,none⟩) 1 qc):=(hbW.cell (p:=⟨g,6,none⟩) hg).trans HN6.out;have e2:W2.cell? ⟨g2,2,none⟩=some (.int .u8 kx):=(hbW.cell (p:=⟨g2,2,none⟩) hg2).trans HE2.out;have e3:W2.cell? ⟨g2,3,none⟩=some (.int .i64 px):=(hbW.cell (p:=⟨g2,3,none⟩) hg2).trans HE3.out;have e4:W2.cell? ⟨g2,4,none⟩=some (.string nx):=(hbW.cell (p:=⟨g2,4,none⟩) hg2).trans HE4.out;have e5:W2.cell? ⟨g2,5,none⟩=some (.int .i64 ix):=(hbW.cell (p:=⟨g2,5,none⟩) hg2).trans HE5.out;have e6:W2.cell? ⟨g2,6,none⟩=some (.int .i64 dx):=(hbW.cell (p:=⟨g2,6,none⟩) hg2).trans HE6.out;have e7:W2.cell? ⟨g2,7,none⟩=some (.slice ax lx.length cx):=(hbW.cell (p:=⟨g2,7,none⟩) hg2).trans HE7.out;clear hW2 hbW)
  have hpw:w.heap.size≤p:=by rw[HP.out];exact Nat.le_refl _
  have hB2:=HBw1.out.trans (HBW.out.mono HBw1.out.size)
  have hBf:=(((((((hB2.setCell (p:=⟨w1.heap.size,0,none⟩) HBw1.out.size (.slice (some ⟨g,0,none⟩) 1 cq)).setCell (p:=⟨p,0,none⟩) hpw (.int .u8 kx)).setCell (p:=⟨p,1,none⟩) hpw (.int .i64 px)).setCell (p:=⟨p,2,none⟩) hpw (.string nx)).setCell (p:=⟨p,3,none⟩) hpw (.int .i64 ix)).setCell (p:=⟨p,4,none⟩) hpw (.int .i64 dx)).setCell (p:=⟨p,5,none⟩) hpw (.slice ax lx.length cx))
  have hnL:¬(w0.heap.size≤w1.heap.size∧w1.heap.size<w1.heap.size):=fun h=>Nat.lt_irrefl _ h.2
  have hnP:¬(w0.heap.size≤p∧p<w1.heap.size):=fun h=>by have:=HS0.out;omega
  have hl2:Lies (fun k=>w0.heap.size≤k∧k<w1.heap.size) W2 (.mk kx px nx ix dx ax cx lx):=(HX.out.2.1.mono fun k hk hq=>⟨hq,hk⟩).keep (KeepsQ.ofBelow HBW.out)
  have hlf:=(((((((hl2.keep (KeepsQ.set (b:=w1.heap.size) (i:=0) (v:=.slice (some ⟨g,0,none⟩) 1 cq) hnL)).keep (KeepsQ.set (b:=p) (i:=0) (v:=.int .u8 kx) hnP)).keep (KeepsQ.set (b:=p) (i:=1) (v:=.int .i64 px) hnP)).keep (KeepsQ.set (b:=p) (i:=2) (v:=.string nx) hnP)).keep (KeepsQ.set (b:=p) (i:=3) (v:=.int .i64 ix) hnP)).keep (KeepsQ.set (b:=p) (i:=4) (v:=.int .i64 dx) hnP)).keep (KeepsQ.set (b:=p) (i:=5) (v:=.slice ax lx.length cx) hnP))
  exact bodyPost_ret (v:=.tuple #[.agg #[.int .u8 kx,.int .i64 px,.string nx,.int .i64 ix,.int .i64 dx,.slice ax lx.length cx],.nilIface]) (by simp[results,Tryz.results15,go_sem, *];try rfl) rfl ⟨hBf,e,_,rfl,rfl,.mk kx px nx ix dx ax cx lx,HX.out.1,rfl,hlf.mono fun k _ hk=>Nat.le_trans HB0.out.size hk.1,HX.out.2.2⟩
end Go.Proofs.YthbgnpkgglbhjaaGreatDoor
