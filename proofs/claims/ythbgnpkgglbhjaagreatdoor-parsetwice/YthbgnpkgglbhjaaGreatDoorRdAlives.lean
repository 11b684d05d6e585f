import Derived.Test.YthbgnpkgglbhjaaGreatDoorRdWholes
import Derived.KernelRfl
import Derived.Laws.OwnMore
namespace Go.Proofs.YthbgnpkgglbhjaaGreatDoor
open Ex.size Ex.depth Ex.lies Ex.bulk Ex.good Ex.shape Ex.bare
def readC(qOf:List Tok→PR (List Nd))(s:ByteArray):Except (ByteArray × Nat × Int) (List Nd) :=
 if (lexC s).2.2≠0 then .error (⟨#[110,111,32,116,111,107,101,110,115]⟩,(lexC s).2.1,(lexC s).2.2) else
 match qOf (lexC s).1 with
 | .error (k,e)=>.error (⟨#[110,111,32,116,114,101,101]⟩,k,e)
 | .ok (l,ts)=>if (hd ts).kind≠0 then .error (⟨#[110,111,32,116,114,101,101]⟩,(hd ts).place,60) else if mayOf l≠0 then .error (⟨#[110,111,32,116,114,101,101]⟩,(hd ts).place,mayOf l) else .ok l
theorem readC_eq(qOf:List Tok→PR (List Nd))(s:ByteArray):readT qOf s=readC qOf s:=by
 unfold readT readC
 rw[lexC_eq]
 rfl
def srcA:ByteArray:=⟨#[97,32,43,32,98,32,42,32,99]⟩
def srcB:ByteArray:=⟨#[120,32,126,62,32,49,32,47,32,50]⟩
def srcC:ByteArray:=⟨#[97,32,61,32,98,32,61,32,99]⟩
def srcD:ByteArray:=⟨#[102,108,111,119,32,109,40,105,58,32,105,110,116,32,114,97,116,101,32,40,49,48,44,32,48,41,41,32,114,101,116,117,114,110,115,32,40,111,58,32,105,110,116,32,100,117,101,32,56,41,32,108,101,116,32,111,32,61,32,105,59,32,116,101,108]⟩
def varE(c:UInt8)(pl:Int):Ex:=.mk 1 pl ⟨#[c]⟩ 0 0 none 0 []
def exA:Ex:=.mk 7 0 ⟨#[]⟩ 0 0 none 0 [varE 97 0,.mk 9 4 ⟨#[]⟩ 0 0 none 0 [varE 98 4,varE 99 8]]
def exB:Ex:=.mk 26 0 ⟨#[]⟩ 1 2 none 0 [varE 120 0]
def ndD:Nd:=⟨true,⟨#[109]⟩,0,none,0,[⟨⟨#[105]⟩,1,7,true,10,0,0⟩],none,0,[⟨⟨#[111]⟩,1,37,false,0,0,8⟩],none,0,[],none,0,[⟨none,0,[⟨#[111]⟩],55,varE 105 59⟩]⟩
theorem readA:oneRT srcA=.ok (oneOf exA):=by rw[oneRT,readC_eq];kernel_rfl
theorem readB:oneRT srcB=.ok (oneOf exB):=by rw[oneRT,readC_eq];kernel_rfl
theorem readE:oneRT srcC=.error (⟨#[110,111,32,116,114,101,101]⟩,6,60):=by rw[oneRT,readC_eq];kernel_rfl
theorem readD:progT srcD=.ok [ndD]:=by rw[progT,readC_eq];kernel_rfl
open Go.RowKit
theorem isA{base:Nat}{w:World}{v:Value}(h:IsEx base w exA v):∃b o cap,v=.agg #[.int .u8 7,.int .i64 0,.string ⟨#[]⟩,.int .i64 0,.int .i64 0,.slice (some ⟨b,o,none⟩) 2 cap]∧w.cell? ⟨b,o+6,none⟩=some (.int .u8 9):=by
 obtain⟨⟨kd,pl,nm,it,dn,a,cap,l⟩,hb,rfl,hl,-⟩:=h
 have hl:=hl w ⟨Nat.le_refl _,fun _ _ _=>rfl⟩
 simp only[Ex.bare,exA,Ex.mk.injEq] at hb
 obtain⟨rfl,rfl,rfl,rfl,rfl,-,-,hb⟩:=hb
 obtain⟨x,y,rfl⟩:∃x y,l=[x,y]:=by
  rw[bares_map] at hb
  have h2:l.length=2:=by simpa using congrArg List.length hb
  match l,h2 with
  | [x,y],_=>exact⟨x,y,rfl⟩
 simp only[bares,List.cons.injEq,and_true] at hb
 obtain⟨b,o,ha,hx,hx2,hy,-⟩:=hl
 obtain rfl:=ha (by simp)
 obtain⟨kd,pl,nm,it,dn,a,c,l⟩:=y
 have hk:=hb.2
 simp only[Ex.bare,Ex.mk.injEq] at hk
 obtain⟨rfl,-⟩:=hk
 exact⟨b,o,cap,rfl,hy 0 (by decide)⟩
theorem isB{base:Nat}{w:World}{v:Value}(h:IsEx base w exB v):∃a n c,v=.agg #[.int .u8 26,.int .i64 0,.string ⟨#[]⟩,.int .i64 1,.int .i64 2,.slice a n c]:=by
 obtain⟨⟨kd,pl,nm,it,dn,a,cap,l⟩,hb,rfl,hl,-⟩:=h
 simp only[Ex.bare,exB,Ex.mk.injEq] at hb
 obtain⟨rfl,rfl,rfl,rfl,rfl,-,-,-⟩:=hb
 exact⟨_,_,_,rfl⟩
theorem isD{base:Nat}{w:World}{v:Value}(h:IsPr base w [ndD] v):∃(g g2 cap ic:Nat),v=.agg #[.slice (some ⟨g,0,none⟩) 1 cap]∧w.cell? ⟨g,3,none⟩=some (.slice (some ⟨g2,0,none⟩) 1 ic)∧w.cell? ⟨g2,4,none⟩=some (.int .i64 10):=by
 obtain⟨xs,a,cap,hx,rfl,h1,h2,h3,h4,h5⟩:=h
 obtain⟨n,rfl,hn⟩:=map_one hx
 obtain⟨g,rfl,hgb,hg,hc⟩:=h4 (by simp)
 obtain⟨⟨q1,q2,q3,q4,q5⟩,-⟩:=h5 n (by simp)
 have he:n.ins=[⟨⟨#[105]⟩,1,7,true,10,0,0⟩]:=by rw[show n.ins=n.bare.ins from rfl,hn];rfl
 obtain⟨g2,ha,-,-,hc2⟩:=q4 (by rw[he];simp)
 refine⟨g,g2,cap,n.ic,rfl,?_,?_⟩
 ·have:=hc 0 (by simp) 3 (by decide)
  rw[show 0*eltN.z+3=3 from rfl] at this
  rw[this]
  show some (Value.slice n.ia n.ins.length n.ic)=_
  rw[ha,he]
  rfl
 ·have:=hc2 0 (by rw[he];simp) 4 (by decide)
  rw[show 0*eltP.z+4=4 from rfl] at this
  rw[this]
  simp only[he,List.getElem_cons_zero]
  rfl
set_option maxRecDepth 100000 in
set_option maxHeartbeats 6400000 in
theorem rd_alive(w0:World)(hr:RangeVar w0)(ht:HasTab w0)(hg:w0.cell? ⟨0,0,none⟩=some (.iface 131 (.agg #[.pointer (some ⟨7,40,none⟩)])))(w:World)(hb:Below w0.heap.size w0 w) :
  Calls Tryz.prog 9 #[] w fun x w'=>x=.returned (.bool true)∧Below w.heap.size w w':=by
 have HX:Hid (∀(s:ByteArray)(W:World),s.size≤1048576→Below w.heap.size w W→Calls Tryz.prog 15 #[.string s] W (ExPost W (oneRT s))):=fun s W hs h2=>by
  have h3:=hb.trans (h2.mono hb.size)
  exact expr_calls s W hs (hr.below h3) (ht.below h3) ((h3.cell (p:=⟨0,0,none⟩) (World.block_lt_of_cell? w0 ⟨0,0,none⟩ hg)).trans hg)
 have HP:Hid (∀(s:ByteArray)(W:World),s.size≤1048576→Below w.heap.size w W→Calls Tryz.prog 12 #[.string s] W (ReadPost W (progT s))):=fun s W hs h2=>by
  have h3:=hb.trans (h2.mono hb.size)
  exact program_calls s W hs (hr.below h3) (ht.below h3) ((h3.cell (p:=⟨0,0,none⟩) (World.block_lt_of_cell? w0 ⟨0,0,none⟩ hg)).trans hg)
 have CA:=HX.out srcA w (by decide) (Below.refl _ _)
 rw[readA] at CA
 clear hr ht hg hb
 go_enter Tryz.func9,Tryz.ntmps9
 go_wp2_with fail
 refine CA.mono ?_
 rintro x w1 ⟨hb1,e1,v1,hl1,rfl,hI1⟩
 obtain rfl:exA=e1:=by
  simp only[oneOf,List.cons.injEq,Nd.mk.injEq,Eqn.mk.injEq,and_true,true_and] at hl1
  exact hl1
 obtain⟨b1,o1,cap1,rfl,c1⟩:=isA hI1
 obtain⟨u1,hu1⟩:∃u1:World,u1=w1.alloc (.cells #[.int .u8 7,.int .i64 0,.string ⟨#[]⟩,.int .i64 0,.int .i64 0,.slice (some ⟨b1,o1,none⟩) 2 cap1] 27):=⟨_,rfl⟩
 obtain⟨p1,hp1⟩:=nw (w1.heap.size)
 have hbu1:Below w1.heap.size w1 u1:=by rw[hu1];exact bal _
 have HB1:=hid (hb1.trans (hbu1.mono hb1.size))
 have hs1:p1<u1.heap.size:=by rw[hu1,hp1];simp
 have a0:u1.cell? ⟨p1,0,none⟩=some (.int .u8 7):=by rw[hu1,hp1];exact(World.cell?_alloc_at _ _ _ _ rfl).trans (by simp)
 have a5:u1.cell? ⟨p1,5,none⟩=some (.slice (some ⟨b1,o1,none⟩) 2 cap1):=by rw[hu1,hp1];exact(World.cell?_alloc_at _ _ _ _ rfl).trans (by simp)
 have hlt:=World.block_lt_of_cell? w1 ⟨b1,o1+6,none⟩ c1
 have HC1:Hid (∀W,Below u1.heap.size u1 W→W.cell? ⟨p1,0,none⟩=some (.int .u8 7)∧W.cell? ⟨p1,5,none⟩=some (.slice (some ⟨b1,o1,none⟩) 2 cap1)∧W.cell? ⟨b1,o1+6,none⟩=some (.int .u8 9)):=fun W h=>⟨(h.cell (p:=⟨p1,0,none⟩) hs1).trans a0,(h.cell (p:=⟨p1,5,none⟩) hs1).trans a5,(h.cell (p:=⟨b1,o1+6,none⟩) (Nat.lt_of_lt_of_le hlt hbu1.size)).trans ((hbu1.cell (p:=⟨b1,o1+6,none⟩) hlt).trans c1)⟩
 have CB:=HX.out srcB u1 (by decide) HB1.out
 rw[readB] at CB
 have HU1:=hid hu1.symm
 have HP1:=hid hp1.symm
 clear CA hb1 hl1 hI1 c1 hu1 hp1 hbu1 a0 a5 hlt hs1
 go_wp2_with fail
 rw[HU1.out,HP1.out]
 refine CB.mono ?_
 rintro x w2 ⟨hb2,e2,v2,hl2,rfl,hI2⟩
 obtain rfl:exB=e2:=by
  simp only[oneOf,List.cons.injEq,Nd.mk.injEq,Eqn.mk.injEq,and_true,true_and] at hl2
  exact hl2
 obtain⟨sa,sn,sc,rfl⟩:=isB hI2
 obtain⟨u2,hu2⟩:∃u2:World,u2=w2.alloc (.cells #[.int .u8 26,.int .i64 0,.string ⟨#[]⟩,.int .i64 1,.int .i64 2,.slice sa sn sc] 27):=⟨_,rfl⟩
 obtain⟨p2,hp2⟩:=nw (w2.heap.size)
 have hbu2:Below w2.heap.size w2 u2:=by rw[hu2];exact bal _
 have hb12:=hb2.trans (hbu2.mono hb2.size)
 have HB12:=hid hb12
 have HB2:=hid (HB1.out.trans (hb12.mono HB1.out.size))
 have hs2:p2<u2.heap.size:=by rw[hu2,hp2];simp
 have a0:u2.cell? ⟨p2,0,none⟩=some (.int .u8 26):=by rw[hu2,hp2];exact(World.cell?_alloc_at _ _ _ _ rfl).trans (by simp)
 have a3:u2.cell? ⟨p2,3,none⟩=some (.int .i64 1):=by rw[hu2,hp2];exact(World.cell?_alloc_at _ _ _ _ rfl).trans (by simp)
 have a4:u2.cell? ⟨p2,4,none⟩=some (.int .i64 2):=by rw[hu2,hp2];exact(World.cell?_alloc_at _ _ _ _ rfl).trans (by simp)
 have HC2:Hid (∀W,Below u2.heap.size u2 W→W.cell? ⟨p2,0,none⟩=some (.int .u8 26)∧W.cell? ⟨p2,3,none⟩=some (.int .i64 1)∧W.cell? ⟨p2,4,none⟩=some (.int .i64 2)):=fun W h=>⟨(h.cell (p:=⟨p2,0,none⟩) hs2).trans a0,(h.cell (p:=⟨p2,3,none⟩) hs2).trans a3,(h.cell (p:=⟨p2,4,none⟩) hs2).trans a4⟩
 have CC:=HX.out srcC u2 (by decide) HB2.out
 rw[readE] at CC
 have HU2:=hid hu2.symm
 have HP2:=hid hp2.symm
 clear CB hb2 hl2 hI2 hu2 hp2 hbu2 hb12 a0 a3 a4 hs2
 go_wp2_with fail
 rw[HU2.out,HP2.out]
 refine CC.mono ?_
 rintro x w3 ⟨hb3,rfl⟩
 obtain⟨u3,hu3⟩:∃u3:World,u3=w3.alloc (.cells #[.int .u8 0,.int .i64 0,.string ⟨#[]⟩,.int .i64 0,.int .i64 0,.slice none 0 0] 27):=⟨_,rfl⟩
 have hbu3:Below w3.heap.size w3 u3:=by rw[hu3];exact bal _
 have hb23:=hb3.trans (hbu3.mono hb3.size)
 have HB23:=hid hb23
 have HB3:=hid (HB2.out.trans (hb23.mono HB2.out.size))
 have CD:=HP.out srcD u3 (by decide) HB3.out
 rw[readD] at CD
 have HU3:=hid hu3.symm
 clear CC hb3 hu3 hbu3 hb23
 go_wp2_with fail
 rw[HU3.out]
 refine CD.mono ?_
 rintro x w4 ⟨hb4,v4,rfl,hI4⟩
 obtain⟨g,g2,cap4,ic,rfl,c3,c4⟩:=isD hI4
 have hb24:=HB23.out.trans (hb4.mono HB23.out.size)
 have hb14:=HB12.out.trans (hb24.mono HB12.out.size)
 have HB4:=hid (HB3.out.trans (hb4.mono HB3.out.size))
 obtain⟨a0,a5,a6⟩:=HC1.out w4 hb14
 obtain⟨b0,b3,b4⟩:=HC2.out w4 hb24
 have l1:=World.block_lt_of_cell? w4 ⟨p1,0,none⟩ a0
 have l2:=World.block_lt_of_cell? w4 ⟨b1,o1+6,none⟩ a6
 have l3:=World.block_lt_of_cell? w4 ⟨p2,0,none⟩ b0
 have l4:=World.block_lt_of_cell? w4 ⟨g,3,none⟩ c3
 have l5:=World.block_lt_of_cell? w4 ⟨g2,4,none⟩ c4
 simp only at l1 l2 l3 l4 l5
 obtain⟨u4,hu4⟩:=nw (w4.alloc (.cells #[.slice (some ⟨g,0,none⟩) 1 cap4] 24))
 obtain⟨p4,hp4⟩:=nw (w4.heap.size)
 have hbu4:Below w4.heap.size w4 u4:=by rw[hu4];exact bal _
 have HB4':=hid (HB4.out.trans (hbu4.mono HB4.out.size))
 have hs4:p4<u4.heap.size:=by rw[hu4,hp4];simp
 have d0:u4.cell? ⟨p4,0,none⟩=some (.slice (some ⟨g,0,none⟩) 1 cap4):=by rw[hu4,hp4];exact World.cell?_alloc_at _ _ _ _ rfl
 have HC4:Hid (∀W,Below u4.heap.size u4 W→W.cell? ⟨p4,0,none⟩=some (.slice (some ⟨g,0,none⟩) 1 cap4)∧W.cell? ⟨g,3,none⟩=some (.slice (some ⟨g2,0,none⟩) 1 ic)∧W.cell? ⟨g2,4,none⟩=some (.int .i64 10)):=fun W h=>⟨(h.cell (p:=⟨p4,0,none⟩) hs4).trans d0,(h.cell (p:=⟨g,3,none⟩) (Nat.lt_of_lt_of_le l4 hbu4.size)).trans ((hbu4.cell (p:=⟨g,3,none⟩) l4).trans c3),(h.cell (p:=⟨g2,4,none⟩) (Nat.lt_of_lt_of_le l5 hbu4.size)).trans ((hbu4.cell (p:=⟨g2,4,none⟩) l5).trans c4)⟩
 have HU4:=hid hu4.symm
 have HP4:=hid hp4.symm
 clear CD hb4 hI4 hb14 hb24 hu4 hp4 hbu4 hs4 d0
 go_wp2_with fail
 rw[HU4.out,HP4.out]
 clear a0 a5 a6 b0 b3 b4 l1 l2 l3 l4 l5 c3 c4
 refine(is_calls _ 6 60 60 u4).mono ?_
 rintro x w5 ⟨rfl,hg5⟩
 have HB5:=hid (HB4'.out.trans (hg5.below.mono HB4'.out.size))
 obtain⟨c2,c3,c4⟩:=HC4.out w5 hg5.below
 clear hg5
 go_wp2_with fail
 go_ret
 exact⟨rfl,HB5.out⟩
end Go.Proofs.YthbgnpkgglbhjaaGreatDoor
