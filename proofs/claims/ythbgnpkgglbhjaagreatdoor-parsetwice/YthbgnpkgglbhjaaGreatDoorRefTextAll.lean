import Derived.Test.YthbgnpkgglbhjaaGreatDoorRefBase
namespace Go.Proofs.YthbgnpkgglbhjaaGreatDoor
open Go.RowKit
open Ex.size Ex.depth Ex.lies Ex.bulk Ex.good Ex.shape Ex.text
set_option maxRecDepth 100000 in
set_option maxHeartbeats 6400000 in
theorem rtext_23{pl it dn:Int}{nm:ByteArray}{a:Option Addr}{cap:Nat}{x:Ex}(hx8:RAt x 8)(hlen:(Ex.text (.mk 23 pl nm it dn a cap [x])).length≤1000000000)(w:World)(hl:Ex.lies w (.mk 23 pl nm it dn a cap [x])) :
  Calls Tryz.prog 32 #[Ex.val (.mk 23 pl nm it dn a cap [x])] w fun r w'=>r=.returned (.string ⟨(Ex.text (.mk 23 pl nm it dn a cap [x])).toArray⟩)∧Below w.heap.size w w':=by
 obtain⟨bA,oA,rfl,hlt,hx⟩:=args_lie hl (by simp)
 obtain⟨X,hX⟩:=nw (par 8 (x.kd,x.text))
 obtain⟨S1,hS1⟩:=nw ([116,97,105,108,32]++X)
 have HT:Hid (Ex.text (.mk 23 pl nm it dn (some ⟨bA,oA,none⟩) cap [x])=S1):=by
  rw[Hid,hS1,hX]
  rfl
 rw[HT.out] at hlen ⊢
 have lS1:S1.length=([116,97,105,108,32]:List UInt8).length+(X:List UInt8).length:=by rw[hS1,List.length_append]
 simp only[lC,lN] at lS1
 have s0:∀W,(Op.stringOp .add ⟨#[116,97,105,108,32]⟩ ⟨X.toArray⟩).run Tryz.prog W=.ok (.string ⟨S1.toArray⟩) W:=fun W=>by rw[hS1];exact add_text W [116,97,105,108,32] X (by simp only[lC,lN];omega)
 obtain⟨W0,hW0⟩:=nw (w.alloc (.cells #[.int .u8 23,.int .i64 pl,.string nm,.int .i64 it,.int .i64 dn,.slice (some ⟨bA,oA,none⟩) 1 cap] 27))
 have hb0:Below w.heap.size w W0:=by rw[hW0];exact bal _
 have hs0:W0.heap.size=w.heap.size+1:=by rw[hW0];simp
 have hbx:W0.heap[w.heap.size]?=some (.cells #[.int .u8 23,.int .i64 pl,.string nm,.int .i64 it,.int .i64 dn,.slice (some ⟨bA,oA,none⟩) 1 cap] 27 (0,0)):=by rw[hW0];exact heap_at rfl
 have C0:TextIs W0 61 #[x.val,.int .i64 8] X:=⟨fun w' h=>by rw[hX];exact hx8 w' (lies_below (hb0.trans (h.out.mono (by omega))) _ (hx 0 (by simp)).2)⟩
 have hcx:=old_cells hb0 hlt (hx 0 (by simp)).1
 clear hX hS1 lS1 hl hx hlen
 obtain⟨kx,px,nx,ix,dx,ax,cx,qx⟩:=x
 obtain⟨lx,hlx⟩:=nw (qx.length)
 simp only[Ex.val,Ex.cells,List.toArray,List.length_cons,List.length_nil,Nat.zero_add,List.getElem_cons_zero,←hlx] at *
 have ex0:W0.cell? ⟨bA,oA,none⟩=some (.int .u8 kx):=by have:=hcx 0 (by omega);simpa using this
 have Kx0:Hid _:=keep_cell ex0
 have ex1:W0.cell? ⟨bA,oA+1,none⟩=some (.int .i64 px):=by have:=hcx 1 (by omega);simpa using this
 have Kx1:Hid _:=keep_cell ex1
 have ex2:W0.cell? ⟨bA,oA+2,none⟩=some (.string nx):=by have:=hcx 2 (by omega);simpa using this
 have Kx2:Hid _:=keep_cell ex2
 have ex3:W0.cell? ⟨bA,oA+3,none⟩=some (.int .i64 ix):=by have:=hcx 3 (by omega);simpa using this
 have Kx3:Hid _:=keep_cell ex3
 have ex4:W0.cell? ⟨bA,oA+4,none⟩=some (.int .i64 dx):=by have:=hcx 4 (by omega);simpa using this
 have Kx4:Hid _:=keep_cell ex4
 have ex5:W0.cell? ⟨bA,oA+5,none⟩=some (.slice ax lx cx):=by have:=hcx 5 (by omega);simpa using this
 have Kx5:Hid _:=keep_cell ex5
 have eb0:W0.cell? ⟨w.heap.size,0,none⟩=some (.int .u8 23):=by rw[cell_of_row hbx];rfl
 have Kb0:Hid _:=keep_cell eb0
 have HE0:Hid _:=hW0
 have HB0:Hid _:=hb0
 have HS0:Hid _:=hs0
 have hltw:bA<w.heap.size:=hlt
 clear hcx hb0 hs0 hbx hW0 ex0 ex1 ex2 ex3 ex4 ex5 eb0 hlx hlt
 have CS:∀w,Calls Tryz.prog 59 #[.int .u8 23] w fun r w'=>r=.returned (.int .i64 (strong 23))∧w'=w:=fun w=>strength_ref 23 (by omega) (by omega) w
 go_enter Tryz.func32,Tryz.ntmps32
 go_wp2_with fail
 rw[←HE0.out]
 refine(CS _).mono ?_
 rintro r w1 ⟨rfl,hw1⟩
 rw[hw1]
 clear hw1
 clear CS
 have HBz:Hid (Below W0.heap.size W0 W0):=Below.refl _ _
 have f0:=Kx0.out W0 HBz
 have f1:=Kx1.out W0 HBz
 have f2:=Kx2.out W0 HBz
 have f3:=Kx3.out W0 HBz
 have f4:=Kx4.out W0 HBz
 have f5:=Kx5.out W0 HBz
 have f6:=Kb0.out W0 HBz
 go_wp2_with fail
 refine(C0.out _ HBz).mono ?_
 rintro r w2 ⟨rfl,hb2⟩
 have HB2:Hid _:=hb2
 clear hb2 f0 f1 f2 f3 f4 f5 f6
 go_wp2_with fail
 go_ret
 exact⟨rfl,HB0.out.trans (HB2.out.mono (by have:=HS0.out;omega))⟩
set_option maxRecDepth 100000 in
set_option maxHeartbeats 6400000 in
theorem rtext_6{pl it dn:Int}{nm:ByteArray}{a:Option Addr}{cap:Nat}{x:Ex}(hx4:RAt x 4)(hlen:(Ex.text (.mk 6 pl nm it dn a cap [x])).length≤1000000000)(w:World)(hl:Ex.lies w (.mk 6 pl nm it dn a cap [x])) :
  Calls Tryz.prog 32 #[Ex.val (.mk 6 pl nm it dn a cap [x])] w fun r w'=>r=.returned (.string ⟨(Ex.text (.mk 6 pl nm it dn a cap [x])).toArray⟩)∧Below w.heap.size w w':=by
 obtain⟨bA,oA,rfl,hlt,hx⟩:=args_lie hl (by simp)
 obtain⟨X,hX⟩:=nw (par 4 (x.kd,x.text))
 obtain⟨S1,hS1⟩:=nw ([110,111,116,32]++X)
 have HT:Hid (Ex.text (.mk 6 pl nm it dn (some ⟨bA,oA,none⟩) cap [x])=S1):=by
  rw[Hid,hS1,hX]
  rfl
 rw[HT.out] at hlen ⊢
 have lS1:S1.length=([110,111,116,32]:List UInt8).length+(X:List UInt8).length:=by rw[hS1,List.length_append]
 simp only[lC,lN] at lS1
 have s0:∀W,(Op.stringOp .add ⟨#[110,111,116,32]⟩ ⟨X.toArray⟩).run Tryz.prog W=.ok (.string ⟨S1.toArray⟩) W:=fun W=>by rw[hS1];exact add_text W [110,111,116,32] X (by simp only[lC,lN];omega)
 obtain⟨W0,hW0⟩:=nw (w.alloc (.cells #[.int .u8 6,.int .i64 pl,.string nm,.int .i64 it,.int .i64 dn,.slice (some ⟨bA,oA,none⟩) 1 cap] 27))
 have hb0:Below w.heap.size w W0:=by rw[hW0];exact bal _
 have hs0:W0.heap.size=w.heap.size+1:=by rw[hW0];simp
 have hbx:W0.heap[w.heap.size]?=some (.cells #[.int .u8 6,.int .i64 pl,.string nm,.int .i64 it,.int .i64 dn,.slice (some ⟨bA,oA,none⟩) 1 cap] 27 (0,0)):=by rw[hW0];exact heap_at rfl
 have C0:TextIs W0 61 #[x.val,.int .i64 4] X:=⟨fun w' h=>by rw[hX];exact hx4 w' (lies_below (hb0.trans (h.out.mono (by omega))) _ (hx 0 (by simp)).2)⟩
 have hcx:=old_cells hb0 hlt (hx 0 (by simp)).1
 clear hX hS1 lS1 hl hx hlen
 obtain⟨kx,px,nx,ix,dx,ax,cx,qx⟩:=x
 obtain⟨lx,hlx⟩:=nw (qx.length)
 simp only[Ex.val,Ex.cells,List.toArray,List.length_cons,List.length_nil,Nat.zero_add,List.getElem_cons_zero,←hlx] at *
 have ex0:W0.cell? ⟨bA,oA,none⟩=some (.int .u8 kx):=by have:=hcx 0 (by omega);simpa using this
 have Kx0:Hid _:=keep_cell ex0
 have ex1:W0.cell? ⟨bA,oA+1,none⟩=some (.int .i64 px):=by have:=hcx 1 (by omega);simpa using this
 have Kx1:Hid _:=keep_cell ex1
 have ex2:W0.cell? ⟨bA,oA+2,none⟩=some (.string nx):=by have:=hcx 2 (by omega);simpa using this
 have Kx2:Hid _:=keep_cell ex2
 have ex3:W0.cell? ⟨bA,oA+3,none⟩=some (.int .i64 ix):=by have:=hcx 3 (by omega);simpa using this
 have Kx3:Hid _:=keep_cell ex3
 have ex4:W0.cell? ⟨bA,oA+4,none⟩=some (.int .i64 dx):=by have:=hcx 4 (by omega);simpa using this
 have Kx4:Hid _:=keep_cell ex4
 have ex5:W0.cell? ⟨bA,oA+5,none⟩=some (.slice ax lx cx):=by have:=hcx 5 (by omega);simpa using this
 have Kx5:Hid _:=keep_cell ex5
 have eb0:W0.cell? ⟨w.heap.size,0,none⟩=some (.int .u8 6):=by rw[cell_of_row hbx];rfl
 have Kb0:Hid _:=keep_cell eb0
 have HE0:Hid _:=hW0
 have HB0:Hid _:=hb0
 have HS0:Hid _:=hs0
 have hltw:bA<w.heap.size:=hlt
 clear hcx hb0 hs0 hbx hW0 ex0 ex1 ex2 ex3 ex4 ex5 eb0 hlx hlt
 have CS:∀w,Calls Tryz.prog 59 #[.int .u8 6] w fun r w'=>r=.returned (.int .i64 (strong 6))∧w'=w:=fun w=>strength_ref 6 (by omega) (by omega) w
 go_enter Tryz.func32,Tryz.ntmps32
 go_wp2_with fail
 rw[←HE0.out]
 refine(CS _).mono ?_
 rintro r w1 ⟨rfl,hw1⟩
 rw[hw1]
 clear hw1
 clear CS
 have HBz:Hid (Below W0.heap.size W0 W0):=Below.refl _ _
 have f0:=Kx0.out W0 HBz
 have f1:=Kx1.out W0 HBz
 have f2:=Kx2.out W0 HBz
 have f3:=Kx3.out W0 HBz
 have f4:=Kx4.out W0 HBz
 have f5:=Kx5.out W0 HBz
 have f6:=Kb0.out W0 HBz
 go_wp2_with fail
 refine(C0.out _ HBz).mono ?_
 rintro r w2 ⟨rfl,hb2⟩
 have HB2:Hid _:=hb2
 clear hb2 f0 f1 f2 f3 f4 f5 f6
 go_wp2_with fail
 go_ret
 exact⟨rfl,HB0.out.trans (HB2.out.mono (by have:=HS0.out;omega))⟩
set_option maxRecDepth 100000 in
set_option maxHeartbeats 6400000 in
theorem rtext_20{pl it dn:Int}{nm:ByteArray}{a:Option Addr}{cap:Nat}{x:Ex}{y:Ex}{z:Ex}(h1:RText x)(h2:RText y)(h3:RText z)(hlen:(Ex.text (.mk 20 pl nm it dn a cap [x,y,z])).length≤1000000000)(w:World)(hl:Ex.lies w (.mk 20 pl nm it dn a cap [x,y,z])) :
  Calls Tryz.prog 32 #[Ex.val (.mk 20 pl nm it dn a cap [x,y,z])] w fun r w'=>r=.returned (.string ⟨(Ex.text (.mk 20 pl nm it dn a cap [x,y,z])).toArray⟩)∧Below w.heap.size w w':=by
 obtain⟨bA,oA,rfl,hlt,hx⟩:=args_lie hl (by simp)
 obtain⟨X,hX⟩:=nw (x.text)
 obtain⟨Y,hY⟩:=nw (y.text)
 obtain⟨Z,hZ⟩:=nw (z.text)
 obtain⟨S1,hS1⟩:=nw ([105,102,32]++X)
 obtain⟨S2,hS2⟩:=nw (S1++[32,116,104,101,110,32])
 obtain⟨S3,hS3⟩:=nw (S2++Y)
 obtain⟨S4,hS4⟩:=nw (S3++[32,101,108,115,101,32])
 obtain⟨S5,hS5⟩:=nw (S4++Z)
 have HT:Hid (Ex.text (.mk 20 pl nm it dn (some ⟨bA,oA,none⟩) cap [x,y,z])=S5):=by
  rw[Hid,hS5,hS4,hS3,hS2,hS1,hX,hY,hZ]
  rfl
 rw[HT.out] at hlen ⊢
 have lS1:S1.length=([105,102,32]:List UInt8).length+(X:List UInt8).length:=by rw[hS1,List.length_append]
 have lS2:S2.length=(S1:List UInt8).length+([32,116,104,101,110,32]:List UInt8).length:=by rw[hS2,List.length_append]
 have lS3:S3.length=(S2:List UInt8).length+(Y:List UInt8).length:=by rw[hS3,List.length_append]
 have lS4:S4.length=(S3:List UInt8).length+([32,101,108,115,101,32]:List UInt8).length:=by rw[hS4,List.length_append]
 have lS5:S5.length=(S4:List UInt8).length+(Z:List UInt8).length:=by rw[hS5,List.length_append]
 simp only[lC,lN] at lS1 lS2 lS3 lS4 lS5
 have s0:∀W,(Op.stringOp .add ⟨#[105,102,32]⟩ ⟨X.toArray⟩).run Tryz.prog W=.ok (.string ⟨S1.toArray⟩) W:=fun W=>by rw[hS1];exact add_text W [105,102,32] X (by simp only[lC,lN];omega)
 have s1:∀W,(Op.stringOp .add ⟨S1.toArray⟩ ⟨#[32,116,104,101,110,32]⟩).run Tryz.prog W=.ok (.string ⟨S2.toArray⟩) W:=fun W=>by rw[hS2];exact add_text W S1 [32,116,104,101,110,32] (by simp only[lC,lN];omega)
 have s2:∀W,(Op.stringOp .add ⟨S2.toArray⟩ ⟨Y.toArray⟩).run Tryz.prog W=.ok (.string ⟨S3.toArray⟩) W:=fun W=>by rw[hS3];exact add_text W S2 Y (by omega)
 have s3:∀W,(Op.stringOp .add ⟨S3.toArray⟩ ⟨#[32,101,108,115,101,32]⟩).run Tryz.prog W=.ok (.string ⟨S4.toArray⟩) W:=fun W=>by rw[hS4];exact add_text W S3 [32,101,108,115,101,32] (by simp only[lC,lN];omega)
 have s4:∀W,(Op.stringOp .add ⟨S4.toArray⟩ ⟨Z.toArray⟩).run Tryz.prog W=.ok (.string ⟨S5.toArray⟩) W:=fun W=>by rw[hS5];exact add_text W S4 Z (by omega)
 obtain⟨W0,hW0⟩:=nw (w.alloc (.cells #[.int .u8 20,.int .i64 pl,.string nm,.int .i64 it,.int .i64 dn,.slice (some ⟨bA,oA,none⟩) 3 cap] 27))
 have hb0:Below w.heap.size w W0:=by rw[hW0];exact bal _
 have hs0:W0.heap.size=w.heap.size+1:=by rw[hW0];simp
 have hbx:W0.heap[w.heap.size]?=some (.cells #[.int .u8 20,.int .i64 pl,.string nm,.int .i64 it,.int .i64 dn,.slice (some ⟨bA,oA,none⟩) 3 cap] 27 (0,0)):=by rw[hW0];exact heap_at rfl
 have C0:TextIs W0 32 #[x.val] X:=⟨fun w' h=>by rw[hX];exact h1 w' (lies_below (hb0.trans (h.out.mono (by omega))) _ (hx 0 (by simp)).2)⟩
 have C1:TextIs W0 32 #[y.val] Y:=⟨fun w' h=>by rw[hY];exact h2 w' (lies_below (hb0.trans (h.out.mono (by omega))) _ (hx 1 (by simp)).2)⟩
 have C2:TextIs W0 32 #[z.val] Z:=⟨fun w' h=>by rw[hZ];exact h3 w' (lies_below (hb0.trans (h.out.mono (by omega))) _ (hx 2 (by simp)).2)⟩
 have hcx:=old_cells hb0 hlt (hx 0 (by simp)).1
 have hcy:=old_cells hb0 hlt (hx 1 (by simp)).1
 have hcz:=old_cells hb0 hlt (hx 2 (by simp)).1
 clear hX hY hZ hS1 hS2 hS3 hS4 hS5 lS1 lS2 lS3 lS4 lS5 hl hx hlen
 obtain⟨kx,px,nx,ix,dx,ax,cx,qx⟩:=x
 obtain⟨lx,hlx⟩:=nw (qx.length)
 obtain⟨ky,py,ny,iy,dy,ay,cy,qy⟩:=y
 obtain⟨ly,hly⟩:=nw (qy.length)
 obtain⟨kz,pz,nz,iz,dz,az,cz,qz⟩:=z
 obtain⟨lz,hlz⟩:=nw (qz.length)
 simp only[Ex.val,Ex.cells,List.toArray,List.length_cons,List.length_nil,Nat.zero_add,Nat.reduceAdd,List.getElem_cons_zero,List.getElem_cons_succ,←hlx,←hly,←hlz] at *
 have ex0:W0.cell? ⟨bA,oA,none⟩=some (.int .u8 kx):=by have:=hcx 0 (by omega);simpa using this
 have Kx0:Hid _:=keep_cell ex0
 have ex1:W0.cell? ⟨bA,oA+1,none⟩=some (.int .i64 px):=by have:=hcx 1 (by omega);simpa using this
 have Kx1:Hid _:=keep_cell ex1
 have ex2:W0.cell? ⟨bA,oA+2,none⟩=some (.string nx):=by have:=hcx 2 (by omega);simpa using this
 have Kx2:Hid _:=keep_cell ex2
 have ex3:W0.cell? ⟨bA,oA+3,none⟩=some (.int .i64 ix):=by have:=hcx 3 (by omega);simpa using this
 have Kx3:Hid _:=keep_cell ex3
 have ex4:W0.cell? ⟨bA,oA+4,none⟩=some (.int .i64 dx):=by have:=hcx 4 (by omega);simpa using this
 have Kx4:Hid _:=keep_cell ex4
 have ex5:W0.cell? ⟨bA,oA+5,none⟩=some (.slice ax lx cx):=by have:=hcx 5 (by omega);simpa using this
 have Kx5:Hid _:=keep_cell ex5
 have ey0:W0.cell? ⟨bA,oA+6,none⟩=some (.int .u8 ky):=by have:=hcy 0 (by omega);simpa using this
 have Ky0:Hid _:=keep_cell ey0
 have ey1:W0.cell? ⟨bA,oA+6+1,none⟩=some (.int .i64 py):=by have:=hcy 1 (by omega);simpa using this
 have Ky1:Hid _:=keep_cell ey1
 have ey2:W0.cell? ⟨bA,oA+6+2,none⟩=some (.string ny):=by have:=hcy 2 (by omega);simpa using this
 have Ky2:Hid _:=keep_cell ey2
 have ey3:W0.cell? ⟨bA,oA+6+3,none⟩=some (.int .i64 iy):=by have:=hcy 3 (by omega);simpa using this
 have Ky3:Hid _:=keep_cell ey3
 have ey4:W0.cell? ⟨bA,oA+6+4,none⟩=some (.int .i64 dy):=by have:=hcy 4 (by omega);simpa using this
 have Ky4:Hid _:=keep_cell ey4
 have ey5:W0.cell? ⟨bA,oA+6+5,none⟩=some (.slice ay ly cy):=by have:=hcy 5 (by omega);simpa using this
 have Ky5:Hid _:=keep_cell ey5
 have ez0:W0.cell? ⟨bA,oA+12,none⟩=some (.int .u8 kz):=by have:=hcz 0 (by omega);simpa using this
 have Kz0:Hid _:=keep_cell ez0
 have ez1:W0.cell? ⟨bA,oA+12+1,none⟩=some (.int .i64 pz):=by have:=hcz 1 (by omega);simpa using this
 have Kz1:Hid _:=keep_cell ez1
 have ez2:W0.cell? ⟨bA,oA+12+2,none⟩=some (.string nz):=by have:=hcz 2 (by omega);simpa using this
 have Kz2:Hid _:=keep_cell ez2
 have ez3:W0.cell? ⟨bA,oA+12+3,none⟩=some (.int .i64 iz):=by have:=hcz 3 (by omega);simpa using this
 have Kz3:Hid _:=keep_cell ez3
 have ez4:W0.cell? ⟨bA,oA+12+4,none⟩=some (.int .i64 dz):=by have:=hcz 4 (by omega);simpa using this
 have Kz4:Hid _:=keep_cell ez4
 have ez5:W0.cell? ⟨bA,oA+12+5,none⟩=some (.slice az lz cz):=by have:=hcz 5 (by omega);simpa using this
 have Kz5:Hid _:=keep_cell ez5
 have eb0:W0.cell? ⟨w.heap.size,0,none⟩=some (.int .u8 20):=by rw[cell_of_row hbx];rfl
 have Kb0:Hid _:=keep_cell eb0
 have HE0:Hid _:=hW0
 have HB0:Hid _:=hb0
 have HS0:Hid _:=hs0
 have hltw:bA<w.heap.size:=hlt
 clear hcx hcy hcz hb0 hs0 hbx hW0 ex0 ex1 ex2 ex3 ex4 ex5 ey0 ey1 ey2 ey3 ey4 ey5 ez0 ez1 ez2 ez3 ez4 ez5 eb0 hlx hly hlz hlt
 have CS:∀w,Calls Tryz.prog 59 #[.int .u8 20] w fun r w'=>r=.returned (.int .i64 (strong 20))∧w'=w:=fun w=>strength_ref 20 (by omega) (by omega) w
 go_enter Tryz.func32,Tryz.ntmps32
 go_wp2_with fail
 rw[←HE0.out]
 refine(CS _).mono ?_
 rintro r w1 ⟨rfl,hw1⟩
 rw[hw1]
 clear hw1
 clear CS
 have HBd:=hid (((Gr.refl W0).drew).below)
 have HBz:Hid (Below W0.heap.size W0 W0):=Below.refl _ _
 have f0:=Kx0.out W0 HBz
 have g0:=Kx0.out W0.drew HBd
 have f1:=Kx1.out W0 HBz
 have g1:=Kx1.out W0.drew HBd
 have f2:=Kx2.out W0 HBz
 have g2:=Kx2.out W0.drew HBd
 have f3:=Kx3.out W0 HBz
 have g3:=Kx3.out W0.drew HBd
 have f4:=Kx4.out W0 HBz
 have g4:=Kx4.out W0.drew HBd
 have f5:=Kx5.out W0 HBz
 have g5:=Kx5.out W0.drew HBd
 have f6:=Ky0.out W0 HBz
 have g6:=Ky0.out W0.drew HBd
 have f7:=Ky1.out W0 HBz
 have g7:=Ky1.out W0.drew HBd
 have f8:=Ky2.out W0 HBz
 have g8:=Ky2.out W0.drew HBd
 have f9:=Ky3.out W0 HBz
 have g9:=Ky3.out W0.drew HBd
 have f10:=Ky4.out W0 HBz
 have g10:=Ky4.out W0.drew HBd
 have f11:=Ky5.out W0 HBz
 have g11:=Ky5.out W0.drew HBd
 have f12:=Kz0.out W0 HBz
 have g12:=Kz0.out W0.drew HBd
 have f13:=Kz1.out W0 HBz
 have g13:=Kz1.out W0.drew HBd
 have f14:=Kz2.out W0 HBz
 have g14:=Kz2.out W0.drew HBd
 have f15:=Kz3.out W0 HBz
 have g15:=Kz3.out W0.drew HBd
 have f16:=Kz4.out W0 HBz
 have g16:=Kz4.out W0.drew HBd
 have f17:=Kz5.out W0 HBz
 have g17:=Kz5.out W0.drew HBd
 have f18:=Kb0.out W0 HBz
 have g18:=Kb0.out W0.drew HBd
 go_wp2_with fail
 go_region_held3 (fun w'=>w'.cell? ⟨bA,oA,none⟩=some (.int .u8 kx)∧w'.cell? ⟨bA,oA+1,none⟩=some (.int .i64 px)∧w'.cell? ⟨bA,oA+2,none⟩=some (.string nx)∧w'.cell? ⟨bA,oA+3,none⟩=some (.int .i64 ix)∧w'.cell? ⟨bA,oA+4,none⟩=some (.int .i64 dx)∧w'.cell? ⟨bA,oA+5,none⟩=some (.slice ax lx cx)∧w'.cell? ⟨bA,oA+6,none⟩=some (.int .u8 ky)∧w'.cell? ⟨bA,oA+6+1,none⟩=some (.int .i64 py)∧w'.cell? ⟨bA,oA+6+2,none⟩=some (.string ny)∧w'.cell? ⟨bA,oA+6+3,none⟩=some (.int .i64 iy)∧w'.cell? ⟨bA,oA+6+4,none⟩=some (.int .i64 dy)∧w'.cell? ⟨bA,oA+6+5,none⟩=some (.slice ay ly cy)∧w'.cell? ⟨bA,oA+12,none⟩=some (.int .u8 kz)∧w'.cell? ⟨bA,oA+12+1,none⟩=some (.int .i64 pz)∧w'.cell? ⟨bA,oA+12+2,none⟩=some (.string nz)∧w'.cell? ⟨bA,oA+12+3,none⟩=some (.int .i64 iz)∧w'.cell? ⟨bA,oA+12+4,none⟩=some (.int .i64 dz)∧w'.cell? ⟨bA,oA+12+5,none⟩=some (.slice az lz cz)∧w'.cell? ⟨w.heap.size,0,none⟩=some (.int .u8 20)) (go_simp) ((refine Calls.mono (TextIs.out (W0:=W0) (by assumption) _ (by assumption)) ?_;rintro r w5 ⟨rfl,hb5⟩;have hB5:=grow_on (W:=W0) (by assumption) hb5;have m0:=Kx0.out w5 hB5;have m1:=Kx1.out w5 hB5;have m2:=Kx2.out w5 hB5;have m3:=Kx3.out w5 hB5;have m4:=Kx4.out w5 hB5;have m5:=Kx5.out w5 hB5;have m6:=Ky0.out w5 hB5;have m7:=Ky1.out w5 hB5;have m8:=Ky2.out w5 hB5;have m9:=Ky3.out w5 hB5;have m10:=Ky4.out w5 hB5;have m11:=Ky5.out w5 hB5;have m12:=Kz0.out w5 hB5;have m13:=Kz1.out w5 hB5;have m14:=Kz2.out w5 hB5;have m15:=Kz3.out w5 hB5;have m16:=Kz4.out w5 hB5;have m17:=Kz5.out w5 hB5;have m18:=Kb0.out w5 hB5;clear hb5))
 all_goals go_wp2_with fail
 all_goals go_ret
 all_goals exact⟨rfl,HB0.out.trans (hB5.out.mono (by have:=HS0.out;omega))⟩
set_option maxRecDepth 100000 in
set_option maxHeartbeats 6400000 in
theorem rtext_21{pl it dn:Int}{nm:ByteArray}{a:Option Addr}{cap:Nat}{x:Ex}{y:Ex}(h1:RAt x 2)(h2:RAt y 1)(hlen:(Ex.text (.mk 21 pl nm it dn a cap [x,y])).length≤1000000000)(w:World)(hl:Ex.lies w (.mk 21 pl nm it dn a cap [x,y])) :
  Calls Tryz.prog 32 #[Ex.val (.mk 21 pl nm it dn a cap [x,y])] w fun r w'=>r=.returned (.string ⟨(Ex.text (.mk 21 pl nm it dn a cap [x,y])).toArray⟩)∧Below w.heap.size w w':=by
 obtain⟨bA,oA,rfl,hlt,hx⟩:=args_lie hl (by simp)
 obtain⟨X,hX⟩:=nw (par 2 (x.kd,x.text))
 obtain⟨Y,hY⟩:=nw (par 1 (y.kd,y.text))
 obtain⟨S1,hS1⟩:=nw (X++[32,102,98,121,32])
 obtain⟨S2,hS2⟩:=nw (S1++Y)
 have HT:Hid (Ex.text (.mk 21 pl nm it dn (some ⟨bA,oA,none⟩) cap [x,y])=S2):=by
  rw[Hid,hS2,hS1,hX,hY]
  rfl
 rw[HT.out] at hlen ⊢
 have lS1:S1.length=(X:List UInt8).length+([32,102,98,121,32]:List UInt8).length:=by rw[hS1,List.length_append]
 have lS2:S2.length=(S1:List UInt8).length+(Y:List UInt8).length:=by rw[hS2,List.length_append]
 simp only[lC,lN] at lS1 lS2
 have s0:∀W,(Op.stringOp .add ⟨X.toArray⟩ ⟨#[32,102,98,121,32]⟩).run Tryz.prog W=.ok (.string ⟨S1.toArray⟩) W:=fun W=>by rw[hS1];exact add_text W X [32,102,98,121,32] (by simp only[lC,lN];omega)
 have s1:∀W,(Op.stringOp .add ⟨S1.toArray⟩ ⟨Y.toArray⟩).run Tryz.prog W=.ok (.string ⟨S2.toArray⟩) W:=fun W=>by rw[hS2];exact add_text W S1 Y (by omega)
 obtain⟨W0,hW0⟩:=nw (w.alloc (.cells #[.int .u8 21,.int .i64 pl,.string nm,.int .i64 it,.int .i64 dn,.slice (some ⟨bA,oA,none⟩) 2 cap] 27))
 have hb0:Below w.heap.size w W0:=by rw[hW0];exact bal _
 have hs0:W0.heap.size=w.heap.size+1:=by rw[hW0];simp
 have hbx:W0.heap[w.heap.size]?=some (.cells #[.int .u8 21,.int .i64 pl,.string nm,.int .i64 it,.int .i64 dn,.slice (some ⟨bA,oA,none⟩) 2 cap] 27 (0,0)):=by rw[hW0];exact heap_at rfl
 have C0:TextIs W0 61 #[x.val,.int .i64 2] X:=⟨fun w' h=>by rw[hX];exact h1 w' (lies_below (hb0.trans (h.out.mono (by omega))) _ (hx 0 (by simp)).2)⟩
 have C1:TextIs W0 61 #[y.val,.int .i64 1] Y:=⟨fun w' h=>by rw[hY];exact h2 w' (lies_below (hb0.trans (h.out.mono (by omega))) _ (hx 1 (by simp)).2)⟩
 have hcx:=old_cells hb0 hlt (hx 0 (by simp)).1
 have hcy:=old_cells hb0 hlt (hx 1 (by simp)).1
 clear hX hY hS1 hS2 lS1 lS2 hl hx hlen
 obtain⟨kx,px,nx,ix,dx,ax,cx,qx⟩:=x
 obtain⟨lx,hlx⟩:=nw (qx.length)
 obtain⟨ky,py,ny,iy,dy,ay,cy,qy⟩:=y
 obtain⟨ly,hly⟩:=nw (qy.length)
 simp only[Ex.val,Ex.cells,List.toArray,List.length_cons,List.length_nil,Nat.zero_add,Nat.reduceAdd,List.getElem_cons_zero,List.getElem_cons_succ,←hlx,←hly] at *
 have ex0:W0.cell? ⟨bA,oA,none⟩=some (.int .u8 kx):=by have:=hcx 0 (by omega);simpa using this
 have Kx0:Hid _:=keep_cell ex0
 have ex1:W0.cell? ⟨bA,oA+1,none⟩=some (.int .i64 px):=by have:=hcx 1 (by omega);simpa using this
 have Kx1:Hid _:=keep_cell ex1
 have ex2:W0.cell? ⟨bA,oA+2,none⟩=some (.string nx):=by have:=hcx 2 (by omega);simpa using this
 have Kx2:Hid _:=keep_cell ex2
 have ex3:W0.cell? ⟨bA,oA+3,none⟩=some (.int .i64 ix):=by have:=hcx 3 (by omega);simpa using this
 have Kx3:Hid _:=keep_cell ex3
 have ex4:W0.cell? ⟨bA,oA+4,none⟩=some (.int .i64 dx):=by have:=hcx 4 (by omega);simpa using this
 have Kx4:Hid _:=keep_cell ex4
 have ex5:W0.cell? ⟨bA,oA+5,none⟩=some (.slice ax lx cx):=by have:=hcx 5 (by omega);simpa using this
 have Kx5:Hid _:=keep_cell ex5
 have ey0:W0.cell? ⟨bA,oA+6,none⟩=some (.int .u8 ky):=by have:=hcy 0 (by omega);simpa using this
 have Ky0:Hid _:=keep_cell ey0
 have ey1:W0.cell? ⟨bA,oA+6+1,none⟩=some (.int .i64 py):=by have:=hcy 1 (by omega);simpa using this
 have Ky1:Hid _:=keep_cell ey1
 have ey2:W0.cell? ⟨bA,oA+6+2,none⟩=some (.string ny):=by have:=hcy 2 (by omega);simpa using this
 have Ky2:Hid _:=keep_cell ey2
 have ey3:W0.cell? ⟨bA,oA+6+3,none⟩=some (.int .i64 iy):=by have:=hcy 3 (by omega);simpa using this
 have Ky3:Hid _:=keep_cell ey3
 have ey4:W0.cell? ⟨bA,oA+6+4,none⟩=some (.int .i64 dy):=by have:=hcy 4 (by omega);simpa using this
 have Ky4:Hid _:=keep_cell ey4
 have ey5:W0.cell? ⟨bA,oA+6+5,none⟩=some (.slice ay ly cy):=by have:=hcy 5 (by omega);simpa using this
 have Ky5:Hid _:=keep_cell ey5
 have eb0:W0.cell? ⟨w.heap.size,0,none⟩=some (.int .u8 21):=by rw[cell_of_row hbx];rfl
 have Kb0:Hid _:=keep_cell eb0
 have HE0:Hid _:=hW0
 have HB0:Hid _:=hb0
 have HS0:Hid _:=hs0
 have hltw:bA<w.heap.size:=hlt
 clear hcx hcy hb0 hs0 hbx hW0 ex0 ex1 ex2 ex3 ex4 ex5 ey0 ey1 ey2 ey3 ey4 ey5 eb0 hlx hly hlt
 have CS:∀w,Calls Tryz.prog 59 #[.int .u8 21] w fun r w'=>r=.returned (.int .i64 (strong 21))∧w'=w:=fun w=>strength_ref 21 (by omega) (by omega) w
 go_enter Tryz.func32,Tryz.ntmps32
 go_wp2_with fail
 rw[←HE0.out]
 refine(CS _).mono ?_
 rintro r w1 ⟨rfl,hw1⟩
 rw[hw1]
 clear hw1
 clear CS
 have HBd:=hid (((Gr.refl W0).drew).below)
 have HBz:Hid (Below W0.heap.size W0 W0):=Below.refl _ _
 have f0:=Kx0.out W0 HBz
 have g0:=Kx0.out W0.drew HBd
 have f1:=Kx1.out W0 HBz
 have g1:=Kx1.out W0.drew HBd
 have f2:=Kx2.out W0 HBz
 have g2:=Kx2.out W0.drew HBd
 have f3:=Kx3.out W0 HBz
 have g3:=Kx3.out W0.drew HBd
 have f4:=Kx4.out W0 HBz
 have g4:=Kx4.out W0.drew HBd
 have f5:=Kx5.out W0 HBz
 have g5:=Kx5.out W0.drew HBd
 have f6:=Ky0.out W0 HBz
 have g6:=Ky0.out W0.drew HBd
 have f7:=Ky1.out W0 HBz
 have g7:=Ky1.out W0.drew HBd
 have f8:=Ky2.out W0 HBz
 have g8:=Ky2.out W0.drew HBd
 have f9:=Ky3.out W0 HBz
 have g9:=Ky3.out W0.drew HBd
 have f10:=Ky4.out W0 HBz
 have g10:=Ky4.out W0.drew HBd
 have f11:=Ky5.out W0 HBz
 have g11:=Ky5.out W0.drew HBd
 have f12:=Kb0.out W0 HBz
 have g12:=Kb0.out W0.drew HBd
 go_wp2_with fail
 go_region_held3 (fun w'=>w'.cell? ⟨bA,oA,none⟩=some (.int .u8 kx)∧w'.cell? ⟨bA,oA+1,none⟩=some (.int .i64 px)∧w'.cell? ⟨bA,oA+2,none⟩=some (.string nx)∧w'.cell? ⟨bA,oA+3,none⟩=some (.int .i64 ix)∧w'.cell? ⟨bA,oA+4,none⟩=some (.int .i64 dx)∧w'.cell? ⟨bA,oA+5,none⟩=some (.slice ax lx cx)∧w'.cell? ⟨bA,oA+6,none⟩=some (.int .u8 ky)∧w'.cell? ⟨bA,oA+6+1,none⟩=some (.int .i64 py)∧w'.cell? ⟨bA,oA+6+2,none⟩=some (.string ny)∧w'.cell? ⟨bA,oA+6+3,none⟩=some (.int .i64 iy)∧w'.cell? ⟨bA,oA+6+4,none⟩=some (.int .i64 dy)∧w'.cell? ⟨bA,oA+6+5,none⟩=some (.slice ay ly cy)∧w'.cell? ⟨w.heap.size,0,none⟩=some (.int .u8 21)) (go_simp) ((refine Calls.mono (TextIs.out (W0:=W0) (by assumption) _ (by assumption)) ?_;rintro r w5 ⟨rfl,hb5⟩;have hB5:=grow_on (W:=W0) (by assumption) hb5;have m0:=Kx0.out w5 hB5;have m1:=Kx1.out w5 hB5;have m2:=Kx2.out w5 hB5;have m3:=Kx3.out w5 hB5;have m4:=Kx4.out w5 hB5;have m5:=Kx5.out w5 hB5;have m6:=Ky0.out w5 hB5;have m7:=Ky1.out w5 hB5;have m8:=Ky2.out w5 hB5;have m9:=Ky3.out w5 hB5;have m10:=Ky4.out w5 hB5;have m11:=Ky5.out w5 hB5;have m12:=Kb0.out w5 hB5;clear hb5))
 all_goals go_wp2_with fail
 all_goals go_ret
 all_goals exact⟨rfl,HB0.out.trans (hB5.out.mono (by have:=HS0.out;omega))⟩
set_option maxRecDepth 100000 in
set_option maxHeartbeats 6400000 in
theorem rtext_22{pl it dn:Int}{nm:ByteArray}{a:Option Addr}{cap:Nat}{x:Ex}{y:Ex}(h1:RAt x 2)(h2:RAt y 1)(hlen:(Ex.text (.mk 22 pl nm it dn a cap [x,y])).length≤1000000000)(w:World)(hl:Ex.lies w (.mk 22 pl nm it dn a cap [x,y])) :
  Calls Tryz.prog 32 #[Ex.val (.mk 22 pl nm it dn a cap [x,y])] w fun r w'=>r=.returned (.string ⟨(Ex.text (.mk 22 pl nm it dn a cap [x,y])).toArray⟩)∧Below w.heap.size w w':=by
 obtain⟨bA,oA,rfl,hlt,hx⟩:=args_lie hl (by simp)
 obtain⟨X,hX⟩:=nw (par 2 (x.kd,x.text))
 obtain⟨Y,hY⟩:=nw (par 1 (y.kd,y.text))
 obtain⟨S1,hS1⟩:=nw (X++[32,58,58,32])
 obtain⟨S2,hS2⟩:=nw (S1++Y)
 have HT:Hid (Ex.text (.mk 22 pl nm it dn (some ⟨bA,oA,none⟩) cap [x,y])=S2):=by
  rw[Hid,hS2,hS1,hX,hY]
  rfl
 rw[HT.out] at hlen ⊢
 have lS1:S1.length=(X:List UInt8).length+([32,58,58,32]:List UInt8).length:=by rw[hS1,List.length_append]
 have lS2:S2.length=(S1:List UInt8).length+(Y:List UInt8).length:=by rw[hS2,List.length_append]
 simp only[lC,lN] at lS1 lS2
 have s0:∀W,(Op.stringOp .add ⟨X.toArray⟩ ⟨#[32,58,58,32]⟩).run Tryz.prog W=.ok (.string ⟨S1.toArray⟩) W:=fun W=>by rw[hS1];exact add_text W X [32,58,58,32] (by simp only[lC,lN];omega)
 have s1:∀W,(Op.stringOp .add ⟨S1.toArray⟩ ⟨Y.toArray⟩).run Tryz.prog W=.ok (.string ⟨S2.toArray⟩) W:=fun W=>by rw[hS2];exact add_text W S1 Y (by omega)
 obtain⟨W0,hW0⟩:=nw (w.alloc (.cells #[.int .u8 22,.int .i64 pl,.string nm,.int .i64 it,.int .i64 dn,.slice (some ⟨bA,oA,none⟩) 2 cap] 27))
 have hb0:Below w.heap.size w W0:=by rw[hW0];exact bal _
 have hs0:W0.heap.size=w.heap.size+1:=by rw[hW0];simp
 have hbx:W0.heap[w.heap.size]?=some (.cells #[.int .u8 22,.int .i64 pl,.string nm,.int .i64 it,.int .i64 dn,.slice (some ⟨bA,oA,none⟩) 2 cap] 27 (0,0)):=by rw[hW0];exact heap_at rfl
 have C0:TextIs W0 61 #[x.val,.int .i64 2] X:=⟨fun w' h=>by rw[hX];exact h1 w' (lies_below (hb0.trans (h.out.mono (by omega))) _ (hx 0 (by simp)).2)⟩
 have C1:TextIs W0 61 #[y.val,.int .i64 1] Y:=⟨fun w' h=>by rw[hY];exact h2 w' (lies_below (hb0.trans (h.out.mono (by omega))) _ (hx 1 (by simp)).2)⟩
 have hcx:=old_cells hb0 hlt (hx 0 (by simp)).1
 have hcy:=old_cells hb0 hlt (hx 1 (by simp)).1
 clear hX hY hS1 hS2 lS1 lS2 hl hx hlen
 obtain⟨kx,px,nx,ix,dx,ax,cx,qx⟩:=x
 obtain⟨lx,hlx⟩:=nw (qx.length)
 obtain⟨ky,py,ny,iy,dy,ay,cy,qy⟩:=y
 obtain⟨ly,hly⟩:=nw (qy.length)
 simp only[Ex.val,Ex.cells,List.toArray,List.length_cons,List.length_nil,Nat.zero_add,Nat.reduceAdd,List.getElem_cons_zero,List.getElem_cons_succ,←hlx,←hly] at *
 have ex0:W0.cell? ⟨bA,oA,none⟩=some (.int .u8 kx):=by have:=hcx 0 (by omega);simpa using this
 have Kx0:Hid _:=keep_cell ex0
 have ex1:W0.cell? ⟨bA,oA+1,none⟩=some (.int .i64 px):=by have:=hcx 1 (by omega);simpa using this
 have Kx1:Hid _:=keep_cell ex1
 have ex2:W0.cell? ⟨bA,oA+2,none⟩=some (.string nx):=by have:=hcx 2 (by omega);simpa using this
 have Kx2:Hid _:=keep_cell ex2
 have ex3:W0.cell? ⟨bA,oA+3,none⟩=some (.int .i64 ix):=by have:=hcx 3 (by omega);simpa using this
 have Kx3:Hid _:=keep_cell ex3
 have ex4:W0.cell? ⟨bA,oA+4,none⟩=some (.int .i64 dx):=by have:=hcx 4 (by omega);simpa using this
 have Kx4:Hid _:=keep_cell ex4
 have ex5:W0.cell? ⟨bA,oA+5,none⟩=some (.slice ax lx cx):=by have:=hcx 5 (by omega);simpa using this
 have Kx5:Hid _:=keep_cell ex5
 have ey0:W0.cell? ⟨bA,oA+6,none⟩=some (.int .u8 ky):=by have:=hcy 0 (by omega);simpa using this
 have Ky0:Hid _:=keep_cell ey0
 have ey1:W0.cell? ⟨bA,oA+6+1,none⟩=some (.int .i64 py):=by have:=hcy 1 (by omega);simpa using this
 have Ky1:Hid _:=keep_cell ey1
 have ey2:W0.cell? ⟨bA,oA+6+2,none⟩=some (.string ny):=by have:=hcy 2 (by omega);simpa using this
 have Ky2:Hid _:=keep_cell ey2
 have ey3:W0.cell? ⟨bA,oA+6+3,none⟩=some (.int .i64 iy):=by have:=hcy 3 (by omega);simpa using this
 have Ky3:Hid _:=keep_cell ey3
 have ey4:W0.cell? ⟨bA,oA+6+4,none⟩=some (.int .i64 dy):=by have:=hcy 4 (by omega);simpa using this
 have Ky4:Hid _:=keep_cell ey4
 have ey5:W0.cell? ⟨bA,oA+6+5,none⟩=some (.slice ay ly cy):=by have:=hcy 5 (by omega);simpa using this
 have Ky5:Hid _:=keep_cell ey5
 have eb0:W0.cell? ⟨w.heap.size,0,none⟩=some (.int .u8 22):=by rw[cell_of_row hbx];rfl
 have Kb0:Hid _:=keep_cell eb0
 have HE0:Hid _:=hW0
 have HB0:Hid _:=hb0
 have HS0:Hid _:=hs0
 have hltw:bA<w.heap.size:=hlt
 clear hcx hcy hb0 hs0 hbx hW0 ex0 ex1 ex2 ex3 ex4 ex5 ey0 ey1 ey2 ey3 ey4 ey5 eb0 hlx hly hlt
 have CS:∀w,Calls Tryz.prog 59 #[.int .u8 22] w fun r w'=>r=.returned (.int .i64 (strong 22))∧w'=w:=fun w=>strength_ref 22 (by omega) (by omega) w
 go_enter Tryz.func32,Tryz.ntmps32
 go_wp2_with fail
 rw[←HE0.out]
 refine(CS _).mono ?_
 rintro r w1 ⟨rfl,hw1⟩
 rw[hw1]
 clear hw1
 clear CS
 have HBd:=hid (((Gr.refl W0).drew).below)
 have HBz:Hid (Below W0.heap.size W0 W0):=Below.refl _ _
 have f0:=Kx0.out W0 HBz
 have g0:=Kx0.out W0.drew HBd
 have f1:=Kx1.out W0 HBz
 have g1:=Kx1.out W0.drew HBd
 have f2:=Kx2.out W0 HBz
 have g2:=Kx2.out W0.drew HBd
 have f3:=Kx3.out W0 HBz
 have g3:=Kx3.out W0.drew HBd
 have f4:=Kx4.out W0 HBz
 have g4:=Kx4.out W0.drew HBd
 have f5:=Kx5.out W0 HBz
 have g5:=Kx5.out W0.drew HBd
 have f6:=Ky0.out W0 HBz
 have g6:=Ky0.out W0.drew HBd
 have f7:=Ky1.out W0 HBz
 have g7:=Ky1.out W0.drew HBd
 have f8:=Ky2.out W0 HBz
 have g8:=Ky2.out W0.drew HBd
 have f9:=Ky3.out W0 HBz
 have g9:=Ky3.out W0.drew HBd
 have f10:=Ky4.out W0 HBz
 have g10:=Ky4.out W0.drew HBd
 have f11:=Ky5.out W0 HBz
 have g11:=Ky5.out W0.drew HBd
 have f12:=Kb0.out W0 HBz
 have g12:=Kb0.out W0.drew HBd
 go_wp2_with fail
 go_region_held3 (fun w'=>w'.cell? ⟨bA,oA,none⟩=some (.int .u8 kx)∧w'.cell? ⟨bA,oA+1,none⟩=some (.int .i64 px)∧w'.cell? ⟨bA,oA+2,none⟩=some (.string nx)∧w'.cell? ⟨bA,oA+3,none⟩=some (.int .i64 ix)∧w'.cell? ⟨bA,oA+4,none⟩=some (.int .i64 dx)∧w'.cell? ⟨bA,oA+5,none⟩=some (.slice ax lx cx)∧w'.cell? ⟨bA,oA+6,none⟩=some (.int .u8 ky)∧w'.cell? ⟨bA,oA+6+1,none⟩=some (.int .i64 py)∧w'.cell? ⟨bA,oA+6+2,none⟩=some (.string ny)∧w'.cell? ⟨bA,oA+6+3,none⟩=some (.int .i64 iy)∧w'.cell? ⟨bA,oA+6+4,none⟩=some (.int .i64 dy)∧w'.cell? ⟨bA,oA+6+5,none⟩=some (.slice ay ly cy)∧w'.cell? ⟨w.heap.size,0,none⟩=some (.int .u8 22)) (go_simp) ((refine Calls.mono (TextIs.out (W0:=W0) (by assumption) _ (by assumption)) ?_;rintro r w5 ⟨rfl,hb5⟩;have hB5:=grow_on (W:=W0) (by assumption) hb5;have m0:=Kx0.out w5 hB5;have m1:=Kx1.out w5 hB5;have m2:=Kx2.out w5 hB5;have m3:=Kx3.out w5 hB5;have m4:=Kx4.out w5 hB5;have m5:=Kx5.out w5 hB5;have m6:=Ky0.out w5 hB5;have m7:=Ky1.out w5 hB5;have m8:=Ky2.out w5 hB5;have m9:=Ky3.out w5 hB5;have m10:=Ky4.out w5 hB5;have m11:=Ky5.out w5 hB5;have m12:=Kb0.out w5 hB5;clear hb5))
 all_goals go_wp2_with fail
 all_goals go_ret
 all_goals exact⟨rfl,HB0.out.trans (hB5.out.mono (by have:=HS0.out;omega))⟩
set_option maxRecDepth 100000 in
set_option maxHeartbeats 6400000 in
theorem rtext_24{pl it dn:Int}{nm:ByteArray}{a:Option Addr}{cap:Nat}{x:Ex}(h1:RAt x 9)(hi:0≤it∧it≤9223372036854775807)(hlen:(Ex.text (.mk 24 pl nm it dn a cap [x])).length≤1000000000)(w:World)(hl:Ex.lies w (.mk 24 pl nm it dn a cap [x])) :
  Calls Tryz.prog 32 #[Ex.val (.mk 24 pl nm it dn a cap [x])] w fun r w'=>r=.returned (.string ⟨(Ex.text (.mk 24 pl nm it dn a cap [x])).toArray⟩)∧Below w.heap.size w w':=by
 obtain⟨bA,oA,rfl,hlt,hx⟩:=args_lie hl (by simp)
 obtain⟨X,hX⟩:=nw (par 9 (x.kd,x.text))
 obtain⟨N,hN⟩:=nw (Lib.itoa it)
 obtain⟨S1,hS1⟩:=nw (X++[32,42,94,32])
 obtain⟨S2,hS2⟩:=nw (S1++N)
 have HT:Hid (Ex.text (.mk 24 pl nm it dn (some ⟨bA,oA,none⟩) cap [x])=S2):=by
  rw[Hid,hS2,hS1,hX,hN]
  rfl
 rw[HT.out] at hlen ⊢
 have lS1:S1.length=(X:List UInt8).length+([32,42,94,32]:List UInt8).length:=by rw[hS1,List.length_append]
 have lS2:S2.length=(S1:List UInt8).length+(N:List UInt8).length:=by rw[hS2,List.length_append]
 simp only[lC,lN] at lS1 lS2
 have s0:∀W,(Op.stringOp .add ⟨X.toArray⟩ ⟨#[32,42,94,32]⟩).run Tryz.prog W=.ok (.string ⟨S1.toArray⟩) W:=fun W=>by rw[hS1];exact add_text W X [32,42,94,32] (by simp only[lC,lN];omega)
 have s1:∀W,(Op.stringOp .add ⟨S1.toArray⟩ ⟨N.toArray⟩).run Tryz.prog W=.ok (.string ⟨S2.toArray⟩) W:=fun W=>by rw[hS2];exact add_text W S1 N (by omega)
 obtain⟨W0,hW0⟩:=nw (w.alloc (.cells #[.int .u8 24,.int .i64 pl,.string nm,.int .i64 it,.int .i64 dn,.slice (some ⟨bA,oA,none⟩) 1 cap] 27))
 have hb0:Below w.heap.size w W0:=by rw[hW0];exact bal _
 have hs0:W0.heap.size=w.heap.size+1:=by rw[hW0];simp
 have hbx:W0.heap[w.heap.size]?=some (.cells #[.int .u8 24,.int .i64 pl,.string nm,.int .i64 it,.int .i64 dn,.slice (some ⟨bA,oA,none⟩) 1 cap] 27 (0,0)):=by rw[hW0];exact heap_at rfl
 have C0:TextIs W0 61 #[x.val,.int .i64 9] X:=⟨fun w' h=>by rw[hX];exact h1 w' (lies_below (hb0.trans (h.out.mono (by omega))) _ (hx 0 (by simp)).2)⟩
 have C1:TextIs W0 60 #[.int .i64 it] N:=⟨fun w' h=>by rw[hN];exact num_ref it hi.1 hi.2 w'⟩
 have hcx:=old_cells hb0 hlt (hx 0 (by simp)).1
 clear hX hN hS1 hS2 lS1 lS2 hl hx hlen
 obtain⟨kx,px,nx,ix,dx,ax,cx,qx⟩:=x
 obtain⟨lx,hlx⟩:=nw (qx.length)
 simp only[Ex.val,Ex.cells,List.toArray,List.length_cons,List.length_nil,Nat.zero_add,List.getElem_cons_zero,←hlx] at *
 have ex0:W0.cell? ⟨bA,oA,none⟩=some (.int .u8 kx):=by have:=hcx 0 (by omega);simpa using this
 have Kx0:Hid _:=keep_cell ex0
 have ex1:W0.cell? ⟨bA,oA+1,none⟩=some (.int .i64 px):=by have:=hcx 1 (by omega);simpa using this
 have Kx1:Hid _:=keep_cell ex1
 have ex2:W0.cell? ⟨bA,oA+2,none⟩=some (.string nx):=by have:=hcx 2 (by omega);simpa using this
 have Kx2:Hid _:=keep_cell ex2
 have ex3:W0.cell? ⟨bA,oA+3,none⟩=some (.int .i64 ix):=by have:=hcx 3 (by omega);simpa using this
 have Kx3:Hid _:=keep_cell ex3
 have ex4:W0.cell? ⟨bA,oA+4,none⟩=some (.int .i64 dx):=by have:=hcx 4 (by omega);simpa using this
 have Kx4:Hid _:=keep_cell ex4
 have ex5:W0.cell? ⟨bA,oA+5,none⟩=some (.slice ax lx cx):=by have:=hcx 5 (by omega);simpa using this
 have Kx5:Hid _:=keep_cell ex5
 have eb0:W0.cell? ⟨w.heap.size,0,none⟩=some (.int .u8 24):=by rw[cell_of_row hbx];rfl
 have Kb0:Hid _:=keep_cell eb0
 have eb3:W0.cell? ⟨w.heap.size,3,none⟩=some (.int .i64 it):=by rw[cell_of_row hbx];rfl
 have Kb3:Hid _:=keep_cell eb3
 have HE0:Hid _:=hW0
 have HB0:Hid _:=hb0
 have HS0:Hid _:=hs0
 have hltw:bA<w.heap.size:=hlt
 clear hcx hb0 hs0 hbx hW0 ex0 ex1 ex2 ex3 ex4 ex5 eb0 eb3 hlx hlt
 have CS:∀w,Calls Tryz.prog 59 #[.int .u8 24] w fun r w'=>r=.returned (.int .i64 (strong 24))∧w'=w:=fun w=>strength_ref 24 (by omega) (by omega) w
 go_enter Tryz.func32,Tryz.ntmps32
 go_wp2_with fail
 rw[←HE0.out]
 refine(CS _).mono ?_
 rintro r w1 ⟨rfl,hw1⟩
 rw[hw1]
 clear hw1
 clear CS
 have HBd:=hid (((Gr.refl W0).drew).below)
 have HBz:Hid (Below W0.heap.size W0 W0):=Below.refl _ _
 have f0:=Kx0.out W0 HBz
 have g0:=Kx0.out W0.drew HBd
 have f1:=Kx1.out W0 HBz
 have g1:=Kx1.out W0.drew HBd
 have f2:=Kx2.out W0 HBz
 have g2:=Kx2.out W0.drew HBd
 have f3:=Kx3.out W0 HBz
 have g3:=Kx3.out W0.drew HBd
 have f4:=Kx4.out W0 HBz
 have g4:=Kx4.out W0.drew HBd
 have f5:=Kx5.out W0 HBz
 have g5:=Kx5.out W0.drew HBd
 have f6:=Kb0.out W0 HBz
 have g6:=Kb0.out W0.drew HBd
 have f7:=Kb3.out W0 HBz
 have g7:=Kb3.out W0.drew HBd
 go_wp2_with fail
 go_region_held3 (fun w'=>w'.cell? ⟨bA,oA,none⟩=some (.int .u8 kx)∧w'.cell? ⟨bA,oA+1,none⟩=some (.int .i64 px)∧w'.cell? ⟨bA,oA+2,none⟩=some (.string nx)∧w'.cell? ⟨bA,oA+3,none⟩=some (.int .i64 ix)∧w'.cell? ⟨bA,oA+4,none⟩=some (.int .i64 dx)∧w'.cell? ⟨bA,oA+5,none⟩=some (.slice ax lx cx)∧w'.cell? ⟨w.heap.size,0,none⟩=some (.int .u8 24)∧w'.cell? ⟨w.heap.size,3,none⟩=some (.int .i64 it)) (go_simp) ((refine Calls.mono (TextIs.out (W0:=W0) (by assumption) _ (by assumption)) ?_;rintro r w5 ⟨rfl,hb5⟩;have hB5:=grow_on (W:=W0) (by assumption) hb5;have m0:=Kx0.out w5 hB5;have m1:=Kx1.out w5 hB5;have m2:=Kx2.out w5 hB5;have m3:=Kx3.out w5 hB5;have m4:=Kx4.out w5 hB5;have m5:=Kx5.out w5 hB5;have m6:=Kb0.out w5 hB5;have m7:=Kb3.out w5 hB5;clear hb5))
 all_goals go_wp2_with fail
 all_goals go_ret
 all_goals exact⟨rfl,HB0.out.trans (hB5.out.mono (by have:=HS0.out;omega))⟩
set_option maxRecDepth 100000 in
set_option maxHeartbeats 6400000 in
theorem rtext_25{pl it dn:Int}{nm:ByteArray}{a:Option Addr}{cap:Nat}{x:Ex}(h1:RAt x 9)(hi:0≤it∧it≤9223372036854775807)(hlen:(Ex.text (.mk 25 pl nm it dn a cap [x])).length≤1000000000)(w:World)(hl:Ex.lies w (.mk 25 pl nm it dn a cap [x])) :
  Calls Tryz.prog 32 #[Ex.val (.mk 25 pl nm it dn a cap [x])] w fun r w'=>r=.returned (.string ⟨(Ex.text (.mk 25 pl nm it dn a cap [x])).toArray⟩)∧Below w.heap.size w w':=by
 obtain⟨bA,oA,rfl,hlt,hx⟩:=args_lie hl (by simp)
 obtain⟨X,hX⟩:=nw (par 9 (x.kd,x.text))
 obtain⟨N,hN⟩:=nw (Lib.itoa it)
 obtain⟨S1,hS1⟩:=nw (X++[32,47,94,32])
 obtain⟨S2,hS2⟩:=nw (S1++N)
 have HT:Hid (Ex.text (.mk 25 pl nm it dn (some ⟨bA,oA,none⟩) cap [x])=S2):=by
  rw[Hid,hS2,hS1,hX,hN]
  rfl
 rw[HT.out] at hlen ⊢
 have lS1:S1.length=(X:List UInt8).length+([32,47,94,32]:List UInt8).length:=by rw[hS1,List.length_append]
 have lS2:S2.length=(S1:List UInt8).length+(N:List UInt8).length:=by rw[hS2,List.length_append]
 simp only[lC,lN] at lS1 lS2
 have s0:∀W,(Op.stringOp .add ⟨X.toArray⟩ ⟨#[32,47,94,32]⟩).run Tryz.prog W=.ok (.string ⟨S1.toArray⟩) W:=fun W=>by rw[hS1];exact add_text W X [32,47,94,32] (by simp only[lC,lN];omega)
 have s1:∀W,(Op.stringOp .add ⟨S1.toArray⟩ ⟨N.toArray⟩).run Tryz.prog W=.ok (.string ⟨S2.toArray⟩) W:=fun W=>by rw[hS2];exact add_text W S1 N (by omega)
 obtain⟨W0,hW0⟩:=nw (w.alloc (.cells #[.int .u8 25,.int .i64 pl,.string nm,.int .i64 it,.int .i64 dn,.slice (some ⟨bA,oA,none⟩) 1 cap] 27))
 have hb0:Below w.heap.size w W0:=by rw[hW0];exact bal _
 have hs0:W0.heap.size=w.heap.size+1:=by rw[hW0];simp
 have hbx:W0.heap[w.heap.size]?=some (.cells #[.int .u8 25,.int .i64 pl,.string nm,.int .i64 it,.int .i64 dn,.slice (some ⟨bA,oA,none⟩) 1 cap] 27 (0,0)):=by rw[hW0];exact heap_at rfl
 have C0:TextIs W0 61 #[x.val,.int .i64 9] X:=⟨fun w' h=>by rw[hX];exact h1 w' (lies_below (hb0.trans (h.out.mono (by omega))) _ (hx 0 (by simp)).2)⟩
 have C1:TextIs W0 60 #[.int .i64 it] N:=⟨fun w' h=>by rw[hN];exact num_ref it hi.1 hi.2 w'⟩
 have hcx:=old_cells hb0 hlt (hx 0 (by simp)).1
 clear hX hN hS1 hS2 lS1 lS2 hl hx hlen
 obtain⟨kx,px,nx,ix,dx,ax,cx,qx⟩:=x
 obtain⟨lx,hlx⟩:=nw (qx.length)
 simp only[Ex.val,Ex.cells,List.toArray,List.length_cons,List.length_nil,Nat.zero_add,List.getElem_cons_zero,←hlx] at *
 have ex0:W0.cell? ⟨bA,oA,none⟩=some (.int .u8 kx):=by have:=hcx 0 (by omega);simpa using this
 have Kx0:Hid _:=keep_cell ex0
 have ex1:W0.cell? ⟨bA,oA+1,none⟩=some (.int .i64 px):=by have:=hcx 1 (by omega);simpa using this
 have Kx1:Hid _:=keep_cell ex1
 have ex2:W0.cell? ⟨bA,oA+2,none⟩=some (.string nx):=by have:=hcx 2 (by omega);simpa using this
 have Kx2:Hid _:=keep_cell ex2
 have ex3:W0.cell? ⟨bA,oA+3,none⟩=some (.int .i64 ix):=by have:=hcx 3 (by omega);simpa using this
 have Kx3:Hid _:=keep_cell ex3
 have ex4:W0.cell? ⟨bA,oA+4,none⟩=some (.int .i64 dx):=by have:=hcx 4 (by omega);simpa using this
 have Kx4:Hid _:=keep_cell ex4
 have ex5:W0.cell? ⟨bA,oA+5,none⟩=some (.slice ax lx cx):=by have:=hcx 5 (by omega);simpa using this
 have Kx5:Hid _:=keep_cell ex5
 have eb0:W0.cell? ⟨w.heap.size,0,none⟩=some (.int .u8 25):=by rw[cell_of_row hbx];rfl
 have Kb0:Hid _:=keep_cell eb0
 have eb3:W0.cell? ⟨w.heap.size,3,none⟩=some (.int .i64 it):=by rw[cell_of_row hbx];rfl
 have Kb3:Hid _:=keep_cell eb3
 have HE0:Hid _:=hW0
 have HB0:Hid _:=hb0
 have HS0:Hid _:=hs0
 have hltw:bA<w.heap.size:=hlt
 clear hcx hb0 hs0 hbx hW0 ex0 ex1 ex2 ex3 ex4 ex5 eb0 eb3 hlx hlt
 have CS:∀w,Calls Tryz.prog 59 #[.int .u8 25] w fun r w'=>r=.returned (.int .i64 (strong 25))∧w'=w:=fun w=>strength_ref 25 (by omega) (by omega) w
 go_enter Tryz.func32,Tryz.ntmps32
 go_wp2_with fail
 rw[←HE0.out]
 refine(CS _).mono ?_
 rintro r w1 ⟨rfl,hw1⟩
 rw[hw1]
 clear hw1
 clear CS
 have HBd:=hid (((Gr.refl W0).drew).below)
 have HBz:Hid (Below W0.heap.size W0 W0):=Below.refl _ _
 have f0:=Kx0.out W0 HBz
 have g0:=Kx0.out W0.drew HBd
 have f1:=Kx1.out W0 HBz
 have g1:=Kx1.out W0.drew HBd
 have f2:=Kx2.out W0 HBz
 have g2:=Kx2.out W0.drew HBd
 have f3:=Kx3.out W0 HBz
 have g3:=Kx3.out W0.drew HBd
 have f4:=Kx4.out W0 HBz
 have g4:=Kx4.out W0.drew HBd
 have f5:=Kx5.out W0 HBz
 have g5:=Kx5.out W0.drew HBd
 have f6:=Kb0.out W0 HBz
 have g6:=Kb0.out W0.drew HBd
 have f7:=Kb3.out W0 HBz
 have g7:=Kb3.out W0.drew HBd
 go_wp2_with fail
 go_region_held3 (fun w'=>w'.cell? ⟨bA,oA,none⟩=some (.int .u8 kx)∧w'.cell? ⟨bA,oA+1,none⟩=some (.int .i64 px)∧w'.cell? ⟨bA,oA+2,none⟩=some (.string nx)∧w'.cell? ⟨bA,oA+3,none⟩=some (.int .i64 ix)∧w'.cell? ⟨bA,oA+4,none⟩=some (.int .i64 dx)∧w'.cell? ⟨bA,oA+5,none⟩=some (.slice ax lx cx)∧w'.cell? ⟨w.heap.size,0,none⟩=some (.int .u8 25)∧w'.cell? ⟨w.heap.size,3,none⟩=some (.int .i64 it)) (go_simp) ((refine Calls.mono (TextIs.out (W0:=W0) (by assumption) _ (by assumption)) ?_;rintro r w5 ⟨rfl,hb5⟩;have hB5:=grow_on (W:=W0) (by assumption) hb5;have m0:=Kx0.out w5 hB5;have m1:=Kx1.out w5 hB5;have m2:=Kx2.out w5 hB5;have m3:=Kx3.out w5 hB5;have m4:=Kx4.out w5 hB5;have m5:=Kx5.out w5 hB5;have m6:=Kb0.out w5 hB5;have m7:=Kb3.out w5 hB5;clear hb5))
 all_goals go_wp2_with fail
 all_goals go_ret
 all_goals exact⟨rfl,HB0.out.trans (hB5.out.mono (by have:=HS0.out;omega))⟩
set_option maxRecDepth 100000 in
set_option maxHeartbeats 6400000 in
theorem rtext_26{pl it dn:Int}{nm:ByteArray}{a:Option Addr}{cap:Nat}{x:Ex}(h1:RAt x 9)(hi:0≤it∧it≤9223372036854775807)(hd:0≤dn∧dn≤9223372036854775807)(hlen:(Ex.text (.mk 26 pl nm it dn a cap [x])).length≤1000000000)(w:World)(hl:Ex.lies w (.mk 26 pl nm it dn a cap [x])) :
  Calls Tryz.prog 32 #[Ex.val (.mk 26 pl nm it dn a cap [x])] w fun r w'=>r=.returned (.string ⟨(Ex.text (.mk 26 pl nm it dn a cap [x])).toArray⟩)∧Below w.heap.size w w':=by
 obtain⟨bA,oA,rfl,hlt,hx⟩:=args_lie hl (by simp)
 obtain⟨X,hX⟩:=nw (par 9 (x.kd,x.text))
 obtain⟨N,hN⟩:=nw (Lib.itoa it)
 obtain⟨D,hD⟩:=nw (Lib.itoa dn)
 obtain⟨S1,hS1⟩:=nw (X++[32,126,62,32])
 obtain⟨S2,hS2⟩:=nw (S1++N)
 obtain⟨S3,hS3⟩:=nw (S2++[47])
 obtain⟨S4,hS4⟩:=nw (S3++D)
 have HT:Hid (Ex.text (.mk 26 pl nm it dn (some ⟨bA,oA,none⟩) cap [x])=S4):=by
  rw[Hid,hS4,hS3,hS2,hS1,hX,hN,hD]
  rfl
 rw[HT.out] at hlen ⊢
 have lS1:S1.length=(X:List UInt8).length+([32,126,62,32]:List UInt8).length:=by rw[hS1,List.length_append]
 have lS2:S2.length=(S1:List UInt8).length+(N:List UInt8).length:=by rw[hS2,List.length_append]
 have lS3:S3.length=(S2:List UInt8).length+([47]:List UInt8).length:=by rw[hS3,List.length_append]
 have lS4:S4.length=(S3:List UInt8).length+(D:List UInt8).length:=by rw[hS4,List.length_append]
 simp only[lC,lN] at lS1 lS2 lS3 lS4
 have s0:∀W,(Op.stringOp .add ⟨X.toArray⟩ ⟨#[32,126,62,32]⟩).run Tryz.prog W=.ok (.string ⟨S1.toArray⟩) W:=fun W=>by rw[hS1];exact add_text W X [32,126,62,32] (by simp only[lC,lN];omega)
 have s1:∀W,(Op.stringOp .add ⟨S1.toArray⟩ ⟨N.toArray⟩).run Tryz.prog W=.ok (.string ⟨S2.toArray⟩) W:=fun W=>by rw[hS2];exact add_text W S1 N (by omega)
 have s2:∀W,(Op.stringOp .add ⟨S2.toArray⟩ ⟨#[47]⟩).run Tryz.prog W=.ok (.string ⟨S3.toArray⟩) W:=fun W=>by rw[hS3];exact add_text W S2 [47] (by simp only[lC,lN];omega)
 have s3:∀W,(Op.stringOp .add ⟨S3.toArray⟩ ⟨D.toArray⟩).run Tryz.prog W=.ok (.string ⟨S4.toArray⟩) W:=fun W=>by rw[hS4];exact add_text W S3 D (by omega)
 obtain⟨W0,hW0⟩:=nw (w.alloc (.cells #[.int .u8 26,.int .i64 pl,.string nm,.int .i64 it,.int .i64 dn,.slice (some ⟨bA,oA,none⟩) 1 cap] 27))
 have hb0:Below w.heap.size w W0:=by rw[hW0];exact bal _
 have hs0:W0.heap.size=w.heap.size+1:=by rw[hW0];simp
 have hbx:W0.heap[w.heap.size]?=some (.cells #[.int .u8 26,.int .i64 pl,.string nm,.int .i64 it,.int .i64 dn,.slice (some ⟨bA,oA,none⟩) 1 cap] 27 (0,0)):=by rw[hW0];exact heap_at rfl
 have C0:TextIs W0 61 #[x.val,.int .i64 9] X:=⟨fun w' h=>by rw[hX];exact h1 w' (lies_below (hb0.trans (h.out.mono (by omega))) _ (hx 0 (by simp)).2)⟩
 have C1:TextIs W0 60 #[.int .i64 it] N:=⟨fun w' h=>by rw[hN];exact num_ref it hi.1 hi.2 w'⟩
 have C2:TextIs W0 60 #[.int .i64 dn] D:=⟨fun w' h=>by rw[hD];exact num_ref dn hd.1 hd.2 w'⟩
 have hcx:=old_cells hb0 hlt (hx 0 (by simp)).1
 clear hX hN hD hS1 hS2 hS3 hS4 lS1 lS2 lS3 lS4 hl hx hlen
 obtain⟨kx,px,nx,ix,dx,ax,cx,qx⟩:=x
 obtain⟨lx,hlx⟩:=nw (qx.length)
 simp only[Ex.val,Ex.cells,List.toArray,List.length_cons,List.length_nil,Nat.zero_add,List.getElem_cons_zero,←hlx] at *
 have ex0:W0.cell? ⟨bA,oA,none⟩=some (.int .u8 kx):=by have:=hcx 0 (by omega);simpa using this
 have Kx0:Hid _:=keep_cell ex0
 have ex1:W0.cell? ⟨bA,oA+1,none⟩=some (.int .i64 px):=by have:=hcx 1 (by omega);simpa using this
 have Kx1:Hid _:=keep_cell ex1
 have ex2:W0.cell? ⟨bA,oA+2,none⟩=some (.string nx):=by have:=hcx 2 (by omega);simpa using this
 have Kx2:Hid _:=keep_cell ex2
 have ex3:W0.cell? ⟨bA,oA+3,none⟩=some (.int .i64 ix):=by have:=hcx 3 (by omega);simpa using this
 have Kx3:Hid _:=keep_cell ex3
 have ex4:W0.cell? ⟨bA,oA+4,none⟩=some (.int .i64 dx):=by have:=hcx 4 (by omega);simpa using this
 have Kx4:Hid _:=keep_cell ex4
 have ex5:W0.cell? ⟨bA,oA+5,none⟩=some (.slice ax lx cx):=by have:=hcx 5 (by omega);simpa using this
 have Kx5:Hid _:=keep_cell ex5
 have eb0:W0.cell? ⟨w.heap.size,0,none⟩=some (.int .u8 26):=by rw[cell_of_row hbx];rfl
 have Kb0:Hid _:=keep_cell eb0
 have eb3:W0.cell? ⟨w.heap.size,3,none⟩=some (.int .i64 it):=by rw[cell_of_row hbx];rfl
 have Kb3:Hid _:=keep_cell eb3
 have eb4:W0.cell? ⟨w.heap.size,4,none⟩=some (.int .i64 dn):=by rw[cell_of_row hbx];rfl
 have Kb4:Hid _:=keep_cell eb4
 have HE0:Hid _:=hW0
 have HB0:Hid _:=hb0
 have HS0:Hid _:=hs0
 have hltw:bA<w.heap.size:=hlt
 clear hcx hb0 hs0 hbx hW0 ex0 ex1 ex2 ex3 ex4 ex5 eb0 eb3 eb4 hlx hlt
 have CS:∀w,Calls Tryz.prog 59 #[.int .u8 26] w fun r w'=>r=.returned (.int .i64 (strong 26))∧w'=w:=fun w=>strength_ref 26 (by omega) (by omega) w
 go_enter Tryz.func32,Tryz.ntmps32
 go_wp2_with fail
 rw[←HE0.out]
 refine(CS _).mono ?_
 rintro r w1 ⟨rfl,hw1⟩
 rw[hw1]
 clear hw1
 clear CS
 have HBd:=hid (((Gr.refl W0).drew).below)
 have HBz:Hid (Below W0.heap.size W0 W0):=Below.refl _ _
 have f0:=Kx0.out W0 HBz
 have g0:=Kx0.out W0.drew HBd
 have f1:=Kx1.out W0 HBz
 have g1:=Kx1.out W0.drew HBd
 have f2:=Kx2.out W0 HBz
 have g2:=Kx2.out W0.drew HBd
 have f3:=Kx3.out W0 HBz
 have g3:=Kx3.out W0.drew HBd
 have f4:=Kx4.out W0 HBz
 have g4:=Kx4.out W0.drew HBd
 have f5:=Kx5.out W0 HBz
 have g5:=Kx5.out W0.drew HBd
 have f6:=Kb0.out W0 HBz
 have g6:=Kb0.out W0.drew HBd
 have f7:=Kb3.out W0 HBz
 have g7:=Kb3.out W0.drew HBd
 have f8:=Kb4.out W0 HBz
 have g8:=Kb4.out W0.drew HBd
 go_wp2_with fail
 go_region_held3 (fun w'=>w'.cell? ⟨bA,oA,none⟩=some (.int .u8 kx)∧w'.cell? ⟨bA,oA+1,none⟩=some (.int .i64 px)∧w'.cell? ⟨bA,oA+2,none⟩=some (.string nx)∧w'.cell? ⟨bA,oA+3,none⟩=some (.int .i64 ix)∧w'.cell? ⟨bA,oA+4,none⟩=some (.int .i64 dx)∧w'.cell? ⟨bA,oA+5,none⟩=some (.slice ax lx cx)∧w'.cell? ⟨w.heap.size,0,none⟩=some (.int .u8 26)∧w'.cell? ⟨w.heap.size,3,none⟩=some (.int .i64 it)∧w'.cell? ⟨w.heap.size,4,none⟩=some (.int .i64 dn)) (go_simp) ((refine Calls.mono (TextIs.out (W0:=W0) (by assumption) _ (by assumption)) ?_;rintro r w5 ⟨rfl,hb5⟩;have hB5:=grow_on (W:=W0) (by assumption) hb5;have m0:=Kx0.out w5 hB5;have m1:=Kx1.out w5 hB5;have m2:=Kx2.out w5 hB5;have m3:=Kx3.out w5 hB5;have m4:=Kx4.out w5 hB5;have m5:=Kx5.out w5 hB5;have m6:=Kb0.out w5 hB5;have m7:=Kb3.out w5 hB5;have m8:=Kb4.out w5 hB5;clear hb5))
 all_goals go_wp2_with fail
 all_goals go_ret
 all_goals exact⟨rfl,HB0.out.trans (hB5.out.mono (by have:=HS0.out;omega))⟩
set_option maxRecDepth 100000 in
set_option maxHeartbeats 6400000 in
theorem rtext_cmp{pl it dn:Int}{nm:ByteArray}{a:Option Addr}{cap:Nat}{x:Ex}{y:Ex}{kd:Int}(hk7:12≤kd)(hk19:kd≤17)(h1:RAt x 6)(h2:RAt y 6)(hlen:(Ex.text (.mk kd pl nm it dn a cap [x,y])).length≤1000000000)(w:World)(hl:Ex.lies w (.mk kd pl nm it dn a cap [x,y])) :
  Calls Tryz.prog 32 #[Ex.val (.mk kd pl nm it dn a cap [x,y])] w fun r w'=>r=.returned (.string ⟨(Ex.text (.mk kd pl nm it dn a cap [x,y])).toArray⟩)∧Below w.heap.size w w':=by
 obtain⟨bA,oA,rfl,hlt,hx⟩:=args_lie hl (by simp)
 obtain⟨X,hX⟩:=nw (par 6 (x.kd,x.text))
 obtain⟨Y,hY⟩:=nw (par 6 (y.kd,y.text))
 obtain⟨G,hG⟩:=nw (refSgn kd)
 obtain⟨S1,hS1⟩:=nw (X++[32])
 obtain⟨S2,hS2⟩:=nw (S1++G)
 obtain⟨S3,hS3⟩:=nw (S2++[32])
 obtain⟨S4,hS4⟩:=nw (S3++Y)
 have HT:Hid (Ex.text (.mk kd pl nm it dn (some ⟨bA,oA,none⟩) cap [x,y])=S4):=by
  rw[Hid,hS4,hS3,hS2,hS1,hX,hY,hG]
  rw[two_text (by unfold isTwo;omega),sign_sgn kd (by omega) (by omega),show firstOf kd=6 by unfold firstOf;rw[if_neg (by omega),if_pos (by omega)],show secondOf kd=6 by unfold secondOf;rw[if_neg (by omega),if_pos (by omega)]];simp only[List.append_assoc]
 rw[HT.out] at hlen ⊢
 have lS1:S1.length=(X:List UInt8).length+([32]:List UInt8).length:=by rw[hS1,List.length_append]
 have lS2:S2.length=(S1:List UInt8).length+(G:List UInt8).length:=by rw[hS2,List.length_append]
 have lS3:S3.length=(S2:List UInt8).length+([32]:List UInt8).length:=by rw[hS3,List.length_append]
 have lS4:S4.length=(S3:List UInt8).length+(Y:List UInt8).length:=by rw[hS4,List.length_append]
 simp only[lC,lN] at lS1 lS2 lS3 lS4
 have s0:∀W,(Op.stringOp .add ⟨X.toArray⟩ ⟨#[32]⟩).run Tryz.prog W=.ok (.string ⟨S1.toArray⟩) W:=fun W=>by rw[hS1];exact add_text W X [32] (by simp only[lC,lN];omega)
 have s1:∀W,(Op.stringOp .add ⟨S1.toArray⟩ ⟨G.toArray⟩).run Tryz.prog W=.ok (.string ⟨S2.toArray⟩) W:=fun W=>by rw[hS2];exact add_text W S1 G (by omega)
 have s2:∀W,(Op.stringOp .add ⟨S2.toArray⟩ ⟨#[32]⟩).run Tryz.prog W=.ok (.string ⟨S3.toArray⟩) W:=fun W=>by rw[hS3];exact add_text W S2 [32] (by simp only[lC,lN];omega)
 have s3:∀W,(Op.stringOp .add ⟨S3.toArray⟩ ⟨Y.toArray⟩).run Tryz.prog W=.ok (.string ⟨S4.toArray⟩) W:=fun W=>by rw[hS4];exact add_text W S3 Y (by omega)
 obtain⟨W0,hW0⟩:=nw (w.alloc (.cells #[.int .u8 kd,.int .i64 pl,.string nm,.int .i64 it,.int .i64 dn,.slice (some ⟨bA,oA,none⟩) 2 cap] 27))
 have hb0:Below w.heap.size w W0:=by rw[hW0];exact bal _
 have hs0:W0.heap.size=w.heap.size+1:=by rw[hW0];simp
 have hbx:W0.heap[w.heap.size]?=some (.cells #[.int .u8 kd,.int .i64 pl,.string nm,.int .i64 it,.int .i64 dn,.slice (some ⟨bA,oA,none⟩) 2 cap] 27 (0,0)):=by rw[hW0];exact heap_at rfl
 have C0:TextIs W0 61 #[x.val,.int .i64 6] X:=⟨fun w' h=>by rw[hX];exact h1 w' (lies_below (hb0.trans (h.out.mono (by omega))) _ (hx 0 (by simp)).2)⟩
 have C1:TextIs W0 62 #[.int .u8 kd] G:=⟨fun w' h=>by rw[hG];exact sign_ref kd (by omega) (by omega) w'⟩
 have C2:TextIs W0 61 #[y.val,.int .i64 6] Y:=⟨fun w' h=>by rw[hY];exact h2 w' (lies_below (hb0.trans (h.out.mono (by omega))) _ (hx 1 (by simp)).2)⟩
 have hcx:=old_cells hb0 hlt (hx 0 (by simp)).1
 have hcy:=old_cells hb0 hlt (hx 1 (by simp)).1
 clear hX hY hG hS1 hS2 hS3 hS4 lS1 lS2 lS3 lS4 hl hx hlen
 obtain⟨kx,px,nx,ix,dx,ax,cx,qx⟩:=x
 obtain⟨lx,hlx⟩:=nw (qx.length)
 obtain⟨ky,py,ny,iy,dy,ay,cy,qy⟩:=y
 obtain⟨ly,hly⟩:=nw (qy.length)
 simp only[Ex.val,Ex.cells,List.toArray,List.length_cons,List.length_nil,Nat.zero_add,Nat.reduceAdd,List.getElem_cons_zero,List.getElem_cons_succ,←hlx,←hly] at *
 have ex0:W0.cell? ⟨bA,oA,none⟩=some (.int .u8 kx):=by have:=hcx 0 (by omega);simpa using this
 have Kx0:Hid _:=keep_cell ex0
 have ex1:W0.cell? ⟨bA,oA+1,none⟩=some (.int .i64 px):=by have:=hcx 1 (by omega);simpa using this
 have Kx1:Hid _:=keep_cell ex1
 have ex2:W0.cell? ⟨bA,oA+2,none⟩=some (.string nx):=by have:=hcx 2 (by omega);simpa using this
 have Kx2:Hid _:=keep_cell ex2
 have ex3:W0.cell? ⟨bA,oA+3,none⟩=some (.int .i64 ix):=by have:=hcx 3 (by omega);simpa using this
 have Kx3:Hid _:=keep_cell ex3
 have ex4:W0.cell? ⟨bA,oA+4,none⟩=some (.int .i64 dx):=by have:=hcx 4 (by omega);simpa using this
 have Kx4:Hid _:=keep_cell ex4
 have ex5:W0.cell? ⟨bA,oA+5,none⟩=some (.slice ax lx cx):=by have:=hcx 5 (by omega);simpa using this
 have Kx5:Hid _:=keep_cell ex5
 have ey0:W0.cell? ⟨bA,oA+6,none⟩=some (.int .u8 ky):=by have:=hcy 0 (by omega);simpa using this
 have Ky0:Hid _:=keep_cell ey0
 have ey1:W0.cell? ⟨bA,oA+6+1,none⟩=some (.int .i64 py):=by have:=hcy 1 (by omega);simpa using this
 have Ky1:Hid _:=keep_cell ey1
 have ey2:W0.cell? ⟨bA,oA+6+2,none⟩=some (.string ny):=by have:=hcy 2 (by omega);simpa using this
 have Ky2:Hid _:=keep_cell ey2
 have ey3:W0.cell? ⟨bA,oA+6+3,none⟩=some (.int .i64 iy):=by have:=hcy 3 (by omega);simpa using this
 have Ky3:Hid _:=keep_cell ey3
 have ey4:W0.cell? ⟨bA,oA+6+4,none⟩=some (.int .i64 dy):=by have:=hcy 4 (by omega);simpa using this
 have Ky4:Hid _:=keep_cell ey4
 have ey5:W0.cell? ⟨bA,oA+6+5,none⟩=some (.slice ay ly cy):=by have:=hcy 5 (by omega);simpa using this
 have Ky5:Hid _:=keep_cell ey5
 have eb0:W0.cell? ⟨w.heap.size,0,none⟩=some (.int .u8 kd):=by rw[cell_of_row hbx];rfl
 have Kb0:Hid _:=keep_cell eb0
 have HE0:Hid _:=hW0
 have HB0:Hid _:=hb0
 have HS0:Hid _:=hs0
 have hltw:bA<w.heap.size:=hlt
 clear hcx hcy hb0 hs0 hbx hW0 ex0 ex1 ex2 ex3 ex4 ex5 ey0 ey1 ey2 ey3 ey4 ey5 eb0 hlx hly hlt
 have b1:(kd==1)=false:=beq_false_of_ne (by omega)
 have b2:(kd==2)=false:=beq_false_of_ne (by omega)
 have b3:(kd==3)=false:=beq_false_of_ne (by omega)
 have b4:(kd==4)=false:=beq_false_of_ne (by omega)
 have b5:(kd==5)=false:=beq_false_of_ne (by omega)
 have b23:(kd==23)=false:=beq_false_of_ne (by omega)
 have b6:(kd==6)=false:=beq_false_of_ne (by omega)
 have b20:(kd==20)=false:=beq_false_of_ne (by omega)
 have b21:(kd==21)=false:=beq_false_of_ne (by omega)
 have b22:(kd==22)=false:=beq_false_of_ne (by omega)
 have b24:(kd==24)=false:=beq_false_of_ne (by omega)
 have b25:(kd==25)=false:=beq_false_of_ne (by omega)
 have b26:(kd==26)=false:=beq_false_of_ne (by omega)
 have CS:∀w,Calls Tryz.prog 59 #[.int .u8 kd] w fun r w'=>r=.returned (.int .i64 5)∧w'=w:=fun w=>by have h:=strength_ref kd (by omega) (by omega) w;rw[strong_cmp kd hk7 hk19] at h;exact h
 go_enter Tryz.func32,Tryz.ntmps32
 go_wp2_with fail
 rw[←HE0.out]
 refine(CS _).mono ?_
 rintro r w1 ⟨rfl,hw1⟩
 rw[hw1]
 clear hw1
 clear CS
 have HBd:=hid (((Gr.refl W0).drew).below)
 have HBz:Hid (Below W0.heap.size W0 W0):=Below.refl _ _
 have f0:=Kx0.out W0 HBz
 have g0:=Kx0.out W0.drew HBd
 have f1:=Kx1.out W0 HBz
 have g1:=Kx1.out W0.drew HBd
 have f2:=Kx2.out W0 HBz
 have g2:=Kx2.out W0.drew HBd
 have f3:=Kx3.out W0 HBz
 have g3:=Kx3.out W0.drew HBd
 have f4:=Kx4.out W0 HBz
 have g4:=Kx4.out W0.drew HBd
 have f5:=Kx5.out W0 HBz
 have g5:=Kx5.out W0.drew HBd
 have f6:=Ky0.out W0 HBz
 have g6:=Ky0.out W0.drew HBd
 have f7:=Ky1.out W0 HBz
 have g7:=Ky1.out W0.drew HBd
 have f8:=Ky2.out W0 HBz
 have g8:=Ky2.out W0.drew HBd
 have f9:=Ky3.out W0 HBz
 have g9:=Ky3.out W0.drew HBd
 have f10:=Ky4.out W0 HBz
 have g10:=Ky4.out W0.drew HBd
 have f11:=Ky5.out W0 HBz
 have g11:=Ky5.out W0.drew HBd
 have f12:=Kb0.out W0 HBz
 have g12:=Kb0.out W0.drew HBd
 go_wp2_with fail
 go_region_held3 (fun w'=>w'.cell? ⟨bA,oA,none⟩=some (.int .u8 kx)∧w'.cell? ⟨bA,oA+1,none⟩=some (.int .i64 px)∧w'.cell? ⟨bA,oA+2,none⟩=some (.string nx)∧w'.cell? ⟨bA,oA+3,none⟩=some (.int .i64 ix)∧w'.cell? ⟨bA,oA+4,none⟩=some (.int .i64 dx)∧w'.cell? ⟨bA,oA+5,none⟩=some (.slice ax lx cx)∧w'.cell? ⟨bA,oA+6,none⟩=some (.int .u8 ky)∧w'.cell? ⟨bA,oA+6+1,none⟩=some (.int .i64 py)∧w'.cell? ⟨bA,oA+6+2,none⟩=some (.string ny)∧w'.cell? ⟨bA,oA+6+3,none⟩=some (.int .i64 iy)∧w'.cell? ⟨bA,oA+6+4,none⟩=some (.int .i64 dy)∧w'.cell? ⟨bA,oA+6+5,none⟩=some (.slice ay ly cy)∧w'.cell? ⟨w.heap.size,0,none⟩=some (.int .u8 kd)) (go_simp) ((refine Calls.mono (TextIs.out (W0:=W0) (by assumption) _ (by assumption)) ?_;rintro r w5 ⟨rfl,hb5⟩;have hB5:=grow_on (W:=W0) (by assumption) hb5;have m0:=Kx0.out w5 hB5;have m1:=Kx1.out w5 hB5;have m2:=Kx2.out w5 hB5;have m3:=Kx3.out w5 hB5;have m4:=Kx4.out w5 hB5;have m5:=Kx5.out w5 hB5;have m6:=Ky0.out w5 hB5;have m7:=Ky1.out w5 hB5;have m8:=Ky2.out w5 hB5;have m9:=Ky3.out w5 hB5;have m10:=Ky4.out w5 hB5;have m11:=Ky5.out w5 hB5;have m12:=Kb0.out w5 hB5;clear hb5))
 all_goals go_wp2_with fail
 all_goals go_ret
 all_goals exact⟨rfl,HB0.out.trans (hB5.out.mono (by have:=HS0.out;omega))⟩
set_option maxRecDepth 100000 in
set_option maxHeartbeats 6400000 in
theorem rtext_op{pl it dn:Int}{nm:ByteArray}{a:Option Addr}{cap:Nat}{x:Ex}{y:Ex}{kd z:Int}(hk7:7≤kd)(hk19:kd≤19)(hz:strong kd=z)(hz5:z≠5)(hz0:0≤z)(hz9:z≤8)(hfo:firstOf kd=z)(hso:secondOf kd=z+1)(h1:RAt x z)(h2:RAt y (z+1))(hlen:(Ex.text (.mk kd pl nm it dn a cap [x,y])).length≤1000000000)(w:World)(hl:Ex.lies w (.mk kd pl nm it dn a cap [x,y])) :
  Calls Tryz.prog 32 #[Ex.val (.mk kd pl nm it dn a cap [x,y])] w fun r w'=>r=.returned (.string ⟨(Ex.text (.mk kd pl nm it dn a cap [x,y])).toArray⟩)∧Below w.heap.size w w':=by
 obtain⟨bA,oA,rfl,hlt,hx⟩:=args_lie hl (by simp)
 obtain⟨X,hX⟩:=nw (par z (x.kd,x.text))
 obtain⟨Y,hY⟩:=nw (par (z+1) (y.kd,y.text))
 obtain⟨G,hG⟩:=nw (refSgn kd)
 obtain⟨S1,hS1⟩:=nw (X++[32])
 obtain⟨S2,hS2⟩:=nw (S1++G)
 obtain⟨S3,hS3⟩:=nw (S2++[32])
 obtain⟨S4,hS4⟩:=nw (S3++Y)
 have HT:Hid (Ex.text (.mk kd pl nm it dn (some ⟨bA,oA,none⟩) cap [x,y])=S4):=by
  rw[Hid,hS4,hS3,hS2,hS1,hX,hY,hG]
  rw[two_text (by unfold isTwo;omega),sign_sgn kd (by omega) (by omega),hfo,hso];simp only[List.append_assoc]
 rw[HT.out] at hlen ⊢
 have lS1:S1.length=(X:List UInt8).length+([32]:List UInt8).length:=by rw[hS1,List.length_append]
 have lS2:S2.length=(S1:List UInt8).length+(G:List UInt8).length:=by rw[hS2,List.length_append]
 have lS3:S3.length=(S2:List UInt8).length+([32]:List UInt8).length:=by rw[hS3,List.length_append]
 have lS4:S4.length=(S3:List UInt8).length+(Y:List UInt8).length:=by rw[hS4,List.length_append]
 simp only[lC,lN] at lS1 lS2 lS3 lS4
 have s0:∀W,(Op.stringOp .add ⟨X.toArray⟩ ⟨#[32]⟩).run Tryz.prog W=.ok (.string ⟨S1.toArray⟩) W:=fun W=>by rw[hS1];exact add_text W X [32] (by simp only[lC,lN];omega)
 have s1:∀W,(Op.stringOp .add ⟨S1.toArray⟩ ⟨G.toArray⟩).run Tryz.prog W=.ok (.string ⟨S2.toArray⟩) W:=fun W=>by rw[hS2];exact add_text W S1 G (by omega)
 have s2:∀W,(Op.stringOp .add ⟨S2.toArray⟩ ⟨#[32]⟩).run Tryz.prog W=.ok (.string ⟨S3.toArray⟩) W:=fun W=>by rw[hS3];exact add_text W S2 [32] (by simp only[lC,lN];omega)
 have s3:∀W,(Op.stringOp .add ⟨S3.toArray⟩ ⟨Y.toArray⟩).run Tryz.prog W=.ok (.string ⟨S4.toArray⟩) W:=fun W=>by rw[hS4];exact add_text W S3 Y (by omega)
 obtain⟨W0,hW0⟩:=nw (w.alloc (.cells #[.int .u8 kd,.int .i64 pl,.string nm,.int .i64 it,.int .i64 dn,.slice (some ⟨bA,oA,none⟩) 2 cap] 27))
 have hb0:Below w.heap.size w W0:=by rw[hW0];exact bal _
 have hs0:W0.heap.size=w.heap.size+1:=by rw[hW0];simp
 have hbx:W0.heap[w.heap.size]?=some (.cells #[.int .u8 kd,.int .i64 pl,.string nm,.int .i64 it,.int .i64 dn,.slice (some ⟨bA,oA,none⟩) 2 cap] 27 (0,0)):=by rw[hW0];exact heap_at rfl
 have C0:TextIs W0 61 #[x.val,.int .i64 z] X:=⟨fun w' h=>by rw[hX];exact h1 w' (lies_below (hb0.trans (h.out.mono (by omega))) _ (hx 0 (by simp)).2)⟩
 have C1:TextIs W0 62 #[.int .u8 kd] G:=⟨fun w' h=>by rw[hG];exact sign_ref kd (by omega) (by omega) w'⟩
 have C2:TextIs W0 61 #[y.val,.int .i64 (IntKind.i64.wrap (z+1))] Y:=⟨fun w' h=>by rw[hY];exact(wrap_small hz0 hz9).symm▸h2 w' (lies_below (hb0.trans (h.out.mono (by omega))) _ (hx 1 (by simp)).2)⟩
 have hcx:=old_cells hb0 hlt (hx 0 (by simp)).1
 have hcy:=old_cells hb0 hlt (hx 1 (by simp)).1
 clear hX hY hG hS1 hS2 hS3 hS4 lS1 lS2 lS3 lS4 hl hx hlen
 obtain⟨kx,px,nx,ix,dx,ax,cx,qx⟩:=x
 obtain⟨lx,hlx⟩:=nw (qx.length)
 obtain⟨ky,py,ny,iy,dy,ay,cy,qy⟩:=y
 obtain⟨ly,hly⟩:=nw (qy.length)
 simp only[Ex.val,Ex.cells,List.toArray,List.length_cons,List.length_nil,Nat.zero_add,Nat.reduceAdd,List.getElem_cons_zero,List.getElem_cons_succ,←hlx,←hly] at *
 have ex0:W0.cell? ⟨bA,oA,none⟩=some (.int .u8 kx):=by have:=hcx 0 (by omega);simpa using this
 have Kx0:Hid _:=keep_cell ex0
 have ex1:W0.cell? ⟨bA,oA+1,none⟩=some (.int .i64 px):=by have:=hcx 1 (by omega);simpa using this
 have Kx1:Hid _:=keep_cell ex1
 have ex2:W0.cell? ⟨bA,oA+2,none⟩=some (.string nx):=by have:=hcx 2 (by omega);simpa using this
 have Kx2:Hid _:=keep_cell ex2
 have ex3:W0.cell? ⟨bA,oA+3,none⟩=some (.int .i64 ix):=by have:=hcx 3 (by omega);simpa using this
 have Kx3:Hid _:=keep_cell ex3
 have ex4:W0.cell? ⟨bA,oA+4,none⟩=some (.int .i64 dx):=by have:=hcx 4 (by omega);simpa using this
 have Kx4:Hid _:=keep_cell ex4
 have ex5:W0.cell? ⟨bA,oA+5,none⟩=some (.slice ax lx cx):=by have:=hcx 5 (by omega);simpa using this
 have Kx5:Hid _:=keep_cell ex5
 have ey0:W0.cell? ⟨bA,oA+6,none⟩=some (.int .u8 ky):=by have:=hcy 0 (by omega);simpa using this
 have Ky0:Hid _:=keep_cell ey0
 have ey1:W0.cell? ⟨bA,oA+6+1,none⟩=some (.int .i64 py):=by have:=hcy 1 (by omega);simpa using this
 have Ky1:Hid _:=keep_cell ey1
 have ey2:W0.cell? ⟨bA,oA+6+2,none⟩=some (.string ny):=by have:=hcy 2 (by omega);simpa using this
 have Ky2:Hid _:=keep_cell ey2
 have ey3:W0.cell? ⟨bA,oA+6+3,none⟩=some (.int .i64 iy):=by have:=hcy 3 (by omega);simpa using this
 have Ky3:Hid _:=keep_cell ey3
 have ey4:W0.cell? ⟨bA,oA+6+4,none⟩=some (.int .i64 dy):=by have:=hcy 4 (by omega);simpa using this
 have Ky4:Hid _:=keep_cell ey4
 have ey5:W0.cell? ⟨bA,oA+6+5,none⟩=some (.slice ay ly cy):=by have:=hcy 5 (by omega);simpa using this
 have Ky5:Hid _:=keep_cell ey5
 have eb0:W0.cell? ⟨w.heap.size,0,none⟩=some (.int .u8 kd):=by rw[cell_of_row hbx];rfl
 have Kb0:Hid _:=keep_cell eb0
 have HE0:Hid _:=hW0
 have HB0:Hid _:=hb0
 have HS0:Hid _:=hs0
 have hltw:bA<w.heap.size:=hlt
 clear hcx hcy hb0 hs0 hbx hW0 ex0 ex1 ex2 ex3 ex4 ex5 ey0 ey1 ey2 ey3 ey4 ey5 eb0 hlx hly hlt
 have b1:(kd==1)=false:=beq_false_of_ne (by omega)
 have b2:(kd==2)=false:=beq_false_of_ne (by omega)
 have b3:(kd==3)=false:=beq_false_of_ne (by omega)
 have b4:(kd==4)=false:=beq_false_of_ne (by omega)
 have b5:(kd==5)=false:=beq_false_of_ne (by omega)
 have b23:(kd==23)=false:=beq_false_of_ne (by omega)
 have b6:(kd==6)=false:=beq_false_of_ne (by omega)
 have b20:(kd==20)=false:=beq_false_of_ne (by omega)
 have b21:(kd==21)=false:=beq_false_of_ne (by omega)
 have b22:(kd==22)=false:=beq_false_of_ne (by omega)
 have b24:(kd==24)=false:=beq_false_of_ne (by omega)
 have b25:(kd==25)=false:=beq_false_of_ne (by omega)
 have b26:(kd==26)=false:=beq_false_of_ne (by omega)
 have b5z:=beq_false_of_ne hz5
 have CS:∀w,Calls Tryz.prog 59 #[.int .u8 kd] w fun r w'=>r=.returned (.int .i64 z)∧w'=w:=fun w=>by rw[←hz];exact strength_ref kd (by omega) (by omega) w
 go_enter Tryz.func32,Tryz.ntmps32
 go_wp2_with fail
 rw[←HE0.out]
 refine(CS _).mono ?_
 rintro r w1 ⟨rfl,hw1⟩
 rw[hw1]
 clear hw1
 clear CS
 have HBd:=hid (((Gr.refl W0).drew).below)
 have HBz:Hid (Below W0.heap.size W0 W0):=Below.refl _ _
 have f0:=Kx0.out W0 HBz
 have g0:=Kx0.out W0.drew HBd
 have f1:=Kx1.out W0 HBz
 have g1:=Kx1.out W0.drew HBd
 have f2:=Kx2.out W0 HBz
 have g2:=Kx2.out W0.drew HBd
 have f3:=Kx3.out W0 HBz
 have g3:=Kx3.out W0.drew HBd
 have f4:=Kx4.out W0 HBz
 have g4:=Kx4.out W0.drew HBd
 have f5:=Kx5.out W0 HBz
 have g5:=Kx5.out W0.drew HBd
 have f6:=Ky0.out W0 HBz
 have g6:=Ky0.out W0.drew HBd
 have f7:=Ky1.out W0 HBz
 have g7:=Ky1.out W0.drew HBd
 have f8:=Ky2.out W0 HBz
 have g8:=Ky2.out W0.drew HBd
 have f9:=Ky3.out W0 HBz
 have g9:=Ky3.out W0.drew HBd
 have f10:=Ky4.out W0 HBz
 have g10:=Ky4.out W0.drew HBd
 have f11:=Ky5.out W0 HBz
 have g11:=Ky5.out W0.drew HBd
 have f12:=Kb0.out W0 HBz
 have g12:=Kb0.out W0.drew HBd
 go_wp2_with fail
 go_region_held3 (fun w'=>w'.cell? ⟨bA,oA,none⟩=some (.int .u8 kx)∧w'.cell? ⟨bA,oA+1,none⟩=some (.int .i64 px)∧w'.cell? ⟨bA,oA+2,none⟩=some (.string nx)∧w'.cell? ⟨bA,oA+3,none⟩=some (.int .i64 ix)∧w'.cell? ⟨bA,oA+4,none⟩=some (.int .i64 dx)∧w'.cell? ⟨bA,oA+5,none⟩=some (.slice ax lx cx)∧w'.cell? ⟨bA,oA+6,none⟩=some (.int .u8 ky)∧w'.cell? ⟨bA,oA+6+1,none⟩=some (.int .i64 py)∧w'.cell? ⟨bA,oA+6+2,none⟩=some (.string ny)∧w'.cell? ⟨bA,oA+6+3,none⟩=some (.int .i64 iy)∧w'.cell? ⟨bA,oA+6+4,none⟩=some (.int .i64 dy)∧w'.cell? ⟨bA,oA+6+5,none⟩=some (.slice ay ly cy)∧w'.cell? ⟨w.heap.size,0,none⟩=some (.int .u8 kd)) (go_simp) ((refine Calls.mono (TextIs.out (W0:=W0) (by assumption) _ (by assumption)) ?_;rintro r w5 ⟨rfl,hb5⟩;have hB5:=grow_on (W:=W0) (by assumption) hb5;have m0:=Kx0.out w5 hB5;have m1:=Kx1.out w5 hB5;have m2:=Kx2.out w5 hB5;have m3:=Kx3.out w5 hB5;have m4:=Kx4.out w5 hB5;have m5:=Kx5.out w5 hB5;have m6:=Ky0.out w5 hB5;have m7:=Ky1.out w5 hB5;have m8:=Ky2.out w5 hB5;have m9:=Ky3.out w5 hB5;have m10:=Ky4.out w5 hB5;have m11:=Ky5.out w5 hB5;have m12:=Kb0.out w5 hB5;clear hb5))
 all_goals go_wp2_with fail
 all_goals go_ret
 all_goals exact⟨rfl,HB0.out.trans (hB5.out.mono (by have:=HS0.out;omega))⟩
set_option maxRecDepth 100000 in
set_option maxHeartbeats 6400000 in
theorem rtext_1{pl it dn:Int}{nm:ByteArray}{a:Option Addr}{cap:Nat}(w:World):Calls Tryz.prog 32 #[Ex.val (.mk 1 pl nm it dn a cap [])] w fun r w'=>r=.returned (.string ⟨(Ex.text (.mk 1 pl nm it dn a cap [])).toArray⟩)∧Below w.heap.size w w':=by
 have HT:Hid ((⟨(Ex.text (.mk 1 pl nm it dn a cap [])).toArray⟩:ByteArray)=nm):=rfl
 rw[HT.out]
 have CS:∀w,Calls Tryz.prog 59 #[.int .u8 1] w fun r w'=>r=.returned (.int .i64 (strong 1))∧w'=w:=fun w=>strength_ref 1 (by omega) (by omega) w
 simp only[Ex.val,Ex.cells,List.toArray,List.length_nil] at *
 go_enter Tryz.func32,Tryz.ntmps32
 go_wp2_with fail
 refine(CS _).mono ?_
 rintro r w1 ⟨rfl,hw1⟩
 rw[hw1]
 clear hw1 CS
 go_wp2_with fail
 go_ret
 exact⟨rfl,bal _⟩
set_option maxRecDepth 100000 in
set_option maxHeartbeats 6400000 in
theorem rtext_2{pl it dn:Int}{nm:ByteArray}{a:Option Addr}{cap:Nat}(hi:0≤it∧it≤9223372036854775807)(w:World):Calls Tryz.prog 32 #[Ex.val (.mk 2 pl nm it dn a cap [])] w fun r w'=>r=.returned (.string ⟨(Ex.text (.mk 2 pl nm it dn a cap [])).toArray⟩)∧Below w.heap.size w w':=by
 rw[text_2]
 have CN:=fun w=>num_ref it hi.1 hi.2 w
 have CS:∀w,Calls Tryz.prog 59 #[.int .u8 2] w fun r w'=>r=.returned (.int .i64 (strong 2))∧w'=w:=fun w=>strength_ref 2 (by omega) (by omega) w
 generalize Lib.itoa it=N at *
 simp only[Ex.val,Ex.cells,List.toArray,List.length_nil] at *
 go_enter Tryz.func32,Tryz.ntmps32
 go_wp2_with fail
 refine(CS _).mono ?_
 rintro r w1 ⟨rfl,hw1⟩
 rw[hw1]
 clear hw1 CS
 go_wp2_with fail
 refine(CN _).mono ?_
 rintro r w2 ⟨rfl,hb2⟩
 have HB2:Hid _:=hb2
 clear CN hb2
 go_wp2_with fail
 go_ret
 exact⟨rfl,(bal _).trans (HB2.out.mono (by simp))⟩
set_option maxRecDepth 100000 in
set_option maxHeartbeats 6400000 in
theorem rtext_3{pl it dn:Int}{nm:ByteArray}{a:Option Addr}{cap:Nat}(w:World):Calls Tryz.prog 32 #[Ex.val (.mk 3 pl nm it dn a cap [])] w fun r w'=>r=.returned (.string ⟨(Ex.text (.mk 3 pl nm it dn a cap [])).toArray⟩)∧Below w.heap.size w w':=by
 rw[text_3]
 have CS:∀w,Calls Tryz.prog 59 #[.int .u8 3] w fun r w'=>r=.returned (.int .i64 (strong 3))∧w'=w:=fun w=>strength_ref 3 (by omega) (by omega) w
 simp only[Ex.val,Ex.cells,List.toArray,List.length_nil] at *
 by_cases h0:it=0
 ·subst h0
  rw[if_pos rfl]
  go_enter Tryz.func32,Tryz.ntmps32
  go_wp2_with fail
  refine(CS _).mono ?_
  rintro r w1 ⟨rfl,hw1⟩
  rw[hw1]
  clear hw1 CS
  go_wp2_with fail
  go_ret
  exact⟨rfl,bal _⟩
 ·rw[if_neg h0]
  have hb:=beq_false_of_ne h0
  go_enter Tryz.func32,Tryz.ntmps32
  go_wp2_with fail
  refine(CS _).mono ?_
  rintro r w1 ⟨rfl,hw1⟩
  rw[hw1]
  clear hw1 CS
  go_wp2_with fail
  go_ret
  exact⟨rfl,bal _⟩
theorem dash_strong(m:Nat):∀e:Ex,e.size≤m→e.shape=true→∃c t,e.text=c::t∧(8≤strong e.kd→(c=45↔e.kd=5)):=by
 induction m with
 | zero=>intro e h;have:=size_pos e;omega
 | succ m ih =>
  intro e hm h
  obtain⟨c,t,hc,-⟩:=text_first _ e (Nat.le_refl _) h
  refine⟨c,t,hc,fun hs=>?_⟩
  obtain⟨kd,pl,nm,it,dn,a,cap,l⟩:=e
  have hsub:∀x∈l,x.size≤m∧x.shape=true:=fun x hx=>by
   obtain⟨i,hi,rfl⟩:=List.getElem_of_mem hx
   have h1:=size_arg hi
   simp only[Ex.size] at hm
   refine⟨by omega,?_⟩
   simp only[Ex.shape,Bool.and_eq_true] at h
   cases hq:(l[i]).shape
   ·have:=shapes_false l i hi hq
    rw[this] at h
    exact absurd h.2 (by decide)
   ·rfl
  simp only[Ex.shape,Bool.and_eq_true] at h
  obtain⟨⟨⟨⟨ha,hnm⟩,hit⟩,hdn⟩,-⟩:=h
  obtain⟨r1,r2⟩:=args_range ha
  simp only at hs ⊢
  have word:∀s:List UInt8,s≠[]→(∀c∈s,wordy c=true)→∀u,s++u=c::t→¬c=45:=fun s h0 hw u he hc45=>by
   cases s with
   | nil=>exact h0 rfl
   | cons d r =>
    simp only[List.cons_append,List.cons.injEq] at he
    have:=hw d (by simp)
    rw[he.1,hc45] at this
    exact absurd this (by decide)
  simp only[argsOkB,decide_eq_true_eq] at ha
  by_cases k1:kd=1
  ·subst k1
   obtain⟨n1,n2,-⟩:=name_bytes (nm:=nm) (by simpa [nameOkB] using hnm)
   exact⟨fun h=>absurd h (word _ n1 n2 [] (by rw[List.append_nil];exact hc)),fun h=>absurd h (by decide)⟩
  by_cases k2:kd=2
  ·subst k2
   have hi:0≤it:=by simpa [intOkB] using hit
   exact⟨fun h=>absurd h (word _ (itoa_some hi) (itoa_wordy hi) [] (by rw[List.append_nil];exact hc)),fun h=>absurd h (by decide)⟩
  by_cases k3:kd=3
  ·subst k3
   rw[text_3] at hc
   refine⟨fun h=>?_,fun h=>absurd h (by decide)⟩
   subst h
   split at hc<;>simp at hc
  by_cases k4:kd=4
  ·subst k4
   obtain⟨n1,n2,-⟩:=name_bytes (nm:=nm) (by simpa [nameOkB] using hnm)
   rw[text_4,List.append_assoc,List.append_assoc] at hc
   exact⟨fun h=>absurd h (word _ n1 n2 _ hc),fun h=>absurd h (by decide)⟩
  by_cases k5:kd=5
  ·subst k5
   have hc':(45:UInt8)::_=c::t:=hc
   rw[List.cons.injEq] at hc'
   exact⟨fun _=>rfl,fun _=>hc'.1.symm⟩
  by_cases k23:kd=23
  ·subst k23
   have hc':(116:UInt8)::_=c::t:=hc
   rw[List.cons.injEq] at hc'
   exact⟨fun h=>by rw[←hc'.1] at h;exact absurd h (by decide),fun h=>absurd h (by decide)⟩
  by_cases kp:kd=24∨kd=25∨kd=26
  ·obtain⟨x,rfl⟩:∃x,l=[x]:=by
    have h1:l.length=1:=by rcases kp with rfl|rfl|rfl<;>simp[argsOf] at ha<;>omega
    match l,h1 with
    | [x],_=>exact⟨x,rfl⟩
   obtain⟨h1,h2⟩:=hsub x (by simp)
   obtain⟨d,u,hd,hd2⟩:=ih x h1 h2
   have hp:∃u,Ex.text (.mk kd pl nm it dn a cap [x])=par 9 (x.kd,x.text)++u:=by
    rcases kp with rfl|rfl|rfl
    ·exact⟨[32,42,94,32]++Lib.itoa it,by rw[←List.append_assoc];rfl⟩
    ·exact⟨[32,47,94,32]++Lib.itoa it,by rw[←List.append_assoc];rfl⟩
    ·exact⟨[32,126,62,32]++(Lib.itoa it++([47]++Lib.itoa dn)),by rw[←List.append_assoc,←List.append_assoc,←List.append_assoc];rfl⟩
   obtain⟨v,hv⟩:=hp
   rw[hv] at hc
   refine⟨fun h=>?_,fun h=>by omega⟩
   subst h
   unfold par at hc
   split at hc
   ·simp at hc
   ·rename_i h9
    simp only at h9 hc
    rw[hd,List.cons_append,List.cons.injEq] at hc
    have:=(hd2 (by omega)).1 hc.1
    rw[this] at h9
    exact absurd (by decide) h9
  have:kd=6∨kd=7∨kd=8∨kd=9∨kd=10∨kd=11∨kd=12∨kd=13∨kd=14∨kd=15∨kd=16∨kd=17∨kd=18∨kd=19∨kd=20∨kd=21∨kd=22:=by omega
  rcases this with rfl|rfl|rfl|rfl|rfl|rfl|rfl|rfl|rfl|rfl|rfl|rfl|rfl|rfl|rfl|rfl|rfl<;>exact absurd hs (by decide)
theorem dash_at{x:Ex}(h:x.shape=true):∃c t,par 8 (x.kd,x.text)=c::t∧(c=45↔x.kd=5):=by
 obtain⟨c,t,hc,hd⟩:=dash_strong _ x (Nat.le_refl _) h
 unfold par
 split
 ·rename_i h8
  refine⟨40,_,rfl,fun h=>absurd h (by decide),fun h=>?_⟩
  simp only at h8
  rw[h] at h8
  exact absurd h8 (by decide)
 ·rename_i h8
  simp only at h8 ⊢
  exact⟨c,t,hc,hd (by omega)⟩
set_option maxRecDepth 100000 in
set_option maxHeartbeats 6400000 in
theorem rtext_5{pl it dn:Int}{nm:ByteArray}{a:Option Addr}{cap:Nat}{x:Ex}(hx8:RAt x 8)(sx:x.shape=true)(hlen:(Ex.text (.mk 5 pl nm it dn a cap [x])).length≤1000000000)(w:World)(hl:Ex.lies w (.mk 5 pl nm it dn a cap [x])) :
  Calls Tryz.prog 32 #[Ex.val (.mk 5 pl nm it dn a cap [x])] w fun r w'=>r=.returned (.string ⟨(Ex.text (.mk 5 pl nm it dn a cap [x])).toArray⟩)∧Below w.heap.size w w':=by
 obtain⟨bA,oA,rfl,hlt,hx⟩:=args_lie hl (by simp)
 obtain⟨c,t,hX,hdash⟩:=dash_at sx
 have HT:Hid (Ex.text (.mk 5 pl nm it dn (some ⟨bA,oA,none⟩) cap [x])=[45]++(if x.kd=5 then [32] else [])++(c::t)):=by rw[Hid,text_5,hX]
 rw[HT.out] at hlen ⊢
 obtain⟨W0,hW0⟩:=nw (w.alloc (.cells #[.int .u8 5,.int .i64 pl,.string nm,.int .i64 it,.int .i64 dn,.slice (some ⟨bA,oA,none⟩) 1 cap] 27))
 have hb0:Below w.heap.size w W0:=by rw[hW0];exact bal _
 have hs0:W0.heap.size=w.heap.size+1:=by rw[hW0];simp
 have hbx:W0.heap[w.heap.size]?=some (.cells #[.int .u8 5,.int .i64 pl,.string nm,.int .i64 it,.int .i64 dn,.slice (some ⟨bA,oA,none⟩) 1 cap] 27 (0,0)):=by rw[hW0];exact heap_at rfl
 have CA:=hx8 W0 (lies_below hb0 _ (hx 0 (by simp)).2)
 rw[hX] at CA
 have hcx:=old_cells hb0 hlt (hx 0 (by simp)).1
 have hk:(c=45↔x.kd=5):=hdash
 have e0:W0.cell? ⟨w.heap.size,0,none⟩=some (.int .u8 5):=by rw[cell_of_row hbx];rfl
 obtain⟨kx,px,nx,ix,dx,ax,cx,qx⟩:=x
 obtain⟨lx,hlx⟩:=nw (qx.length)
 simp only at hk hlen
 have HE0:Hid _:=hW0
 have HB0:Hid _:=hb0
 have HS0:Hid _:=hs0
 clear hl hx hX hdash HT hx8 sx hbx
 simp only[Ex.val,Ex.cells,List.toArray,List.length_cons,List.length_nil,Nat.zero_add,List.getElem_cons_zero,←hlx] at CA hcx ⊢
 have f0:W0.cell? ⟨bA,oA,none⟩=some (.int .u8 kx):=by have:=hcx 0 (by omega);simpa using this
 have f1:W0.cell? ⟨bA,oA+1,none⟩=some (.int .i64 px):=by have:=hcx 1 (by omega);simpa using this
 have f2:W0.cell? ⟨bA,oA+2,none⟩=some (.string nx):=by have:=hcx 2 (by omega);simpa using this
 have f3:W0.cell? ⟨bA,oA+3,none⟩=some (.int .i64 ix):=by have:=hcx 3 (by omega);simpa using this
 have f4:W0.cell? ⟨bA,oA+4,none⟩=some (.int .i64 dx):=by have:=hcx 4 (by omega);simpa using this
 have f5:W0.cell? ⟨bA,oA+5,none⟩=some (.slice ax lx cx):=by have:=hcx 5 (by omega);simpa using this
 have CS:∀w,Calls Tryz.prog 59 #[.int .u8 5] w fun r w'=>r=.returned (.int .i64 (strong 5))∧w'=w:=fun w=>strength_ref 5 (by omega) (by omega) w
 obtain⟨u,hu⟩:∃u:List UInt8,u=c::t:=⟨_,rfl⟩
 have hu0:(ByteArray.mk u.toArray).size=t.length+1:=by rw[hu];rfl
 have hu1:∀h:0<(ByteArray.mk u.toArray).size,(ByteArray.mk u.toArray)[0]=c:=fun h=>by subst hu;rfl
 rw[←hu] at CA hlen ⊢
 have hul:u.length=t.length+1:=by rw[hu];rfl
 clear hcx hlx hW0 hb0 hs0 hu hlt
 by_cases h5:kx=5
 ·have hc:c=45:=hk.2 h5
  subst hc
  have s1:∀W,(Op.stringOp .add ⟨#[45,32]⟩ ⟨u.toArray⟩).run Tryz.prog W=.ok (.string ⟨([45,32]++u).toArray⟩) W:=fun W=>add_text W [45,32] u (by simp only[List.length_append,List.length_cons,List.length_nil] at *;omega)
  have HO:Hid ([45]++(if kx=5 then [32] else [])++u=[45,32]++u):=by rw[Hid,if_pos h5];rfl
  rw[HO.out]
  generalize [45,32]++u=S1 at *
  clear hk h5 HO hlen
  go_enter Tryz.func32,Tryz.ntmps32
  go_wp2_with fail
  rw[←HE0.out]
  refine(CS _).mono ?_
  rintro r w1 ⟨rfl,hw1⟩
  rw[hw1]
  clear hw1 CS
  go_wp2_with fail
  refine CA.mono ?_
  rintro r w2 ⟨rfl,hb2⟩
  have HB2:Hid _:=hb2
  clear hb2 CA f0 f1 f2 f3 f4 f5 e0
  go_wp2_with fail
  go_ret
  exact⟨rfl,HB0.out.trans (HB2.out.mono (by have:=HS0.out;omega))⟩
 ·have hc:¬c=45:=fun h=>h5 (hk.1 h)
  have hcn:((c.toNat:Int)==45)=false:=beq_false_of_ne fun h=>hc (by apply UInt8.toNat_inj.1;show c.toNat=45;omega)
  have s1:∀W,(Op.stringOp .add ⟨#[45]⟩ ⟨u.toArray⟩).run Tryz.prog W=.ok (.string ⟨([45]++u).toArray⟩) W:=fun W=>add_text W [45] u (by simp only[List.length_append,List.length_cons,List.length_nil] at *;omega)
  have HO:Hid ([45]++(if kx=5 then [32] else [])++u=[45]++u):=by rw[Hid,if_neg h5];rfl
  rw[HO.out]
  generalize [45]++u=S1 at *
  clear hk h5 HO hlen hc
  go_enter Tryz.func32,Tryz.ntmps32
  go_wp2_with fail
  rw[←HE0.out]
  refine(CS _).mono ?_
  rintro r w1 ⟨rfl,hw1⟩
  rw[hw1]
  clear hw1 CS
  go_wp2_with fail
  refine CA.mono ?_
  rintro r w2 ⟨rfl,hb2⟩
  have HB2:Hid _:=hb2
  clear hb2 CA f0 f1 f2 f3 f4 f5 e0
  go_wp2_with fail
  go_ret
  exact⟨rfl,HB0.out.trans (HB2.out.mono (by have:=HS0.out;omega))⟩
set_option maxRecDepth 100000 in
set_option maxHeartbeats 6400000 in
theorem rtext_4{pl it dn:Int}{nm:ByteArray}{a:Option Addr}{cap:Nat}{l:List Ex}(hn:l.length≤1048576)(ih:∀x∈l,RText x)(hlen:(Ex.text (.mk 4 pl nm it dn a cap l)).length≤1000000000)(w:World)(hl:Ex.lies w (.mk 4 pl nm it dn a cap l)) :
  Calls Tryz.prog 32 #[Ex.val (.mk 4 pl nm it dn a cap l)] w fun r w'=>r=.returned (.string ⟨(Ex.text (.mk 4 pl nm it dn a cap l)).toArray⟩)∧Below w.heap.size w w':=by
 obtain⟨bA,oA,hla,hlie⟩:=hl
 obtain⟨ts,hts⟩:=nw (l.map Ex.text)
 obtain⟨A,hA⟩:=nw (nm.data.toList++[40])
 have HTS:Hid _:=hts
 have HT:Hid (Ex.text (.mk 4 pl nm it dn a cap l)=(A++between [44,32] ts)++[41]):=by rw[Hid,hA,text_4,←hts]
 rw[HT.out] at hlen ⊢
 have HLe:=hid hlen
 obtain⟨n,hn2⟩:=nw (l.length)
 have HN:=hid hn2
 have HLen:Hid (ts.length=n):=by rw[Hid,hts,List.length_map,hn2]
 have HIH:Hid _:=ih
 have HLA:Hid _:=hla
 have HLie:Hid _:=hlie
 have HA:Hid _:=hA
 have s0:∀W,(Op.stringOp .add nm ⟨#[40]⟩).run Tryz.prog W=.ok (.string ⟨A.toArray⟩) W:=fun W=>by
  rw[HA.out]
  exact add_text W nm.data.toList [40] (by have:=HLe.out;rw[HA.out] at this;simp only[List.length_append,List.length_cons,List.length_nil] at this ⊢;omega)
 have CS:∀w,Calls Tryz.prog 59 #[.int .u8 4] w fun r w'=>r=.returned (.int .i64 (strong 4))∧w'=w:=fun w=>strength_ref 4 (by omega) (by omega) w
 simp only[Ex.val,Ex.cells,List.toArray]
 rw[←hn2] at hn ⊢
 clear hts hn2 hlen hla hlie ih hA
 go_enter Tryz.func32,Tryz.ntmps32
 go_wp2_with fail
 refine(CS _).mono ?_
 rintro r w1 ⟨rfl,hw1⟩
 rw[hw1]
 clear hw1 CS
 go_wp2_with fail
 go_loopw [5,6] (fun s i wr=>∃k:Nat,k≤n∧i=.int .i64 k∧s=.string ⟨(A++between [44,32] (ts.take k)).toArray⟩∧Hid (Below w.heap.size w wr)) (fun _ i _=>n-(intOf i).toNat)
 case atStart=>exact⟨0,by omega,rfl,by simp[between],bal _⟩
 case round =>
  obtain⟨k,hk,rfl,rfl,HB⟩:=hrel
  by_cases hlt:k<n
  ·have hkl:k<l.length:=by rw[←HN.out];exact hlt
   have hkt:k<ts.length:=by rw[HLen.out];exact hlt
   obtain rfl:=HLA.out (by intro h;rw[h] at hkl;simp at hkl)
   obtain⟨hc,hli⟩:=lieAt_get l oA k HLie.out hkl
   have hblk:bA<w.heap.size:=by
    have h0:=hc 0 (by omega)
    cases hx:l[k]
    rw[hx] at h0
    exact World.block_lt_of_cell? w ⟨bA,_,none⟩ h0
   have hcr:=old_cells HB.out hblk hc
   have HF:Hid (between [44,32] (ts.take (k+1))=between [44,32] (ts.take k)++(if 0<k then [44,32] else [])++ts[k]):=between_at _ _ _ hkt
   have hx:ts[k]=l[k].text:=by simp[HTS.out]
   have hbl:(A++between [44,32] (ts.take (k+1))).length≤1000000000:=by
    obtain⟨u,hu⟩:=between_prefix [44,32] ts (k+1)
    have h1:=HLe.out
    rw[hu] at h1
    simp only[List.length_append] at *
    omega
   have CX:=HIH.out l[k] (List.getElem_mem hkl) wr (lies_below HB.out _ hli)
   rw[←hx] at CX
   obtain⟨S0,hS0⟩:=nw (A++between [44,32] (ts.take k))
   obtain⟨S2,hS2⟩:=nw (A++between [44,32] (ts.take (k+1)))
   rw[←hS0]
   have HS2:Hid _:=hS2
   rw[HF.out] at hS2
   rw[←HS2.out] at hbl
   generalize ts[k]=tk at *
   generalize l[k]=x at *
   obtain⟨kx,px,nx,ix,dx,ax,cx,ls⟩:=x
   obtain⟨lx,hlx⟩:=nw (ls.length)
   simp only[Ex.val,Ex.cells,List.toArray,←hlx] at CX hcr
   have c0:wr.cell? ⟨bA,oA+k*6,none⟩=some (.int .u8 kx):=hcr 0 (by omega)
   have c1:wr.cell? ⟨bA,oA+k*6+1,none⟩=some (.int .i64 px):=hcr 1 (by omega)
   have c2:wr.cell? ⟨bA,oA+k*6+2,none⟩=some (.string nx):=hcr 2 (by omega)
   have c3:wr.cell? ⟨bA,oA+k*6+3,none⟩=some (.int .i64 ix):=hcr 3 (by omega)
   have c4:wr.cell? ⟨bA,oA+k*6+4,none⟩=some (.int .i64 dx):=hcr 4 (by omega)
   have c5:wr.cell? ⟨bA,oA+k*6+5,none⟩=some (.slice ax lx cx):=hcr 5 (by omega)
   clear hc hli hcr hlx hx hkl hkt hblk
   by_cases h0:0<k
   ·rw[if_pos h0,←List.append_assoc,←List.append_assoc,←hS0] at hS2
    obtain⟨S1,hS1⟩:=nw (S0++[44,32])
    rw[←hS1] at hS2
    have l1:S1.length=S0.length+2:=by rw[hS1];simp
    have l2:S2.length=S1.length+tk.length:=by rw[hS2];simp
    have s1:∀W,(Op.stringOp .add ⟨S0.toArray⟩ ⟨#[44,32]⟩).run Tryz.prog W=.ok (.string ⟨S1.toArray⟩) W:=fun W=>by rw[hS1];exact add_text W S0 [44,32] (by simp only[lC,lN];omega)
    have s2:∀W,(Op.stringOp .add ⟨S1.toArray⟩ ⟨tk.toArray⟩).run Tryz.prog W=.ok (.string ⟨S2.toArray⟩) W:=fun W=>by rw[hS2];exact add_text W S1 tk (by omega)
    clear hS0 hS1 hS2 l1 l2 hbl
    go_wp2_with fail
    refine CX.mono ?_
    rintro r w3 ⟨rfl,hb3⟩
    have HB3:=hid (HB.out.trans (hb3.mono HB.out.size))
    clear hb3 c0 c1 c2 c3 c4 c5 CX
    go_wp2_with fail
    go_roundw
    case rel=>exact⟨k+1,by omega,by go_num,by rw[←HS2.out],HB3⟩
    case measure=>simp[intOf];omega
   ·obtain rfl:k=0:=by omega
    rw[if_neg h0,List.append_nil,←List.append_assoc,←hS0] at hS2
    have l2:S2.length=S0.length+tk.length:=by rw[hS2];simp
    have s2:∀W,(Op.stringOp .add ⟨S0.toArray⟩ ⟨tk.toArray⟩).run Tryz.prog W=.ok (.string ⟨S2.toArray⟩) W:=fun W=>by rw[hS2];exact add_text W S0 tk (by omega)
    simp only[Nat.zero_mul,Nat.add_zero] at c0 c1 c2 c3 c4 c5
    clear hS0 hS2 l2 hbl h0
    go_wp2_with fail
    refine CX.mono ?_
    rintro r w3 ⟨rfl,hb3⟩
    have HB3:=hid (HB.out.trans (hb3.mono HB.out.size))
    clear hb3 c0 c1 c2 c3 c4 c5 CX
    go_wp2_with fail
    go_roundw
    case rel=>exact⟨1,by omega,by go_num,by rw[←HS2.out],HB3⟩
    case measure=>simp[intOf];omega
  ·obtain rfl:k=n:=by omega
   have HE:Hid (A++between [44,32] (ts.take k)=A++between [44,32] ts):=by rw[Hid,←HLen.out,List.take_length]
   rw[HE.out]
   have s9:∀W,(Op.stringOp .add ⟨(A++between [44,32] ts).toArray⟩ ⟨#[41]⟩).run Tryz.prog W=.ok (.string ⟨((A++between [44,32] ts)++[41]).toArray⟩) W:=fun W=>add_text W (A++between [44,32] ts) [41] (by have:=HLe.out;simp only[List.length_append,List.length_cons,List.length_nil] at this ⊢;omega)
   obtain⟨R1,hR1⟩:=nw ((A++between [44,32] ts)++[41])
   have HR1:Hid _:=hR1
   rw[←hR1] at s9
   clear hR1
   generalize A++between [44,32] ts=R0 at s9 ⊢
   go_wp2_with fail
   go_ret
   exact⟨by rw[←HR1.out];rfl,HB.out⟩
end Go.Proofs.YthbgnpkgglbhjaaGreatDoor
namespace Go.Proofs.YthbgnpkgglbhjaaGreatDoor
open Go.RowKit
open Ex.size Ex.depth Ex.lies Ex.bulk Ex.good Ex.shape Ex.text
theorem op_facts:∀k:Nat,k<27→7≤k→k≤19→¬(12≤k∧k≤17)→strong k≠5∧strong k≤8∧firstOf k=strong k∧secondOf k=strong k+1:=by
 have:∀k:Fin 27,7≤k.val→k.val≤19→¬(12≤k.val∧k.val≤17)→strong (k.val:Int)≠5∧strong (k.val:Int)≤8∧firstOf (k.val:Int)=strong (k.val:Int)∧secondOf (k.val:Int)=strong (k.val:Int)+1:=by decide +kernel
 exact fun k hk=>this ⟨k,hk⟩
theorem rtext_all(m:Nat):∀e:Ex,e.size≤m→e.size≤1048576→e.shape=true→e.good→RText e:=by
 induction m with
 | zero=>intro e h;have:=size_pos e;omega
 | succ m ih =>
  rintro⟨kd,pl,nm,it,dn,a,cap,l⟩ hm hbig h hgd
  have hlen:(Ex.text (.mk kd pl nm it dn a cap l)).length≤1000000000:=by
   have:=text_len _ _ (Nat.le_refl _) h hgd
   omega
  have hsub:∀i (hi:i<l.length),RText l[i]∧(l[i]).shape=true∧(l[i]).text.length≤1000000000:=fun i hi=>by
   have h1:=size_arg hi
   simp only[Ex.size] at hm hbig
   have h2:=shape_arg h hi
   have h3:=good_arg hgd hi
   have h4:=text_len _ _ (Nat.le_refl _) h2 h3
   exact⟨ih _ (by omega) (by omega) h2 h3,h2,by omega⟩
  have hat:∀i (hi:i<l.length)(n:Int),0≤n∧n≤100→RAt l[i] n:=fun i hi n hn=>by
   obtain⟨h1,h2,h3⟩:=hsub i hi
   obtain⟨r1,r2⟩:=kd_range h2
   exact at_ref _ h1 r1 r2 h3 n hn
  have hir:=num_range hgd.1.2.2.2.1
  have hdr:=num_range hgd.1.2.2.2.2.1
  simp only[Ex.shape,Bool.and_eq_true] at h
  obtain⟨⟨⟨⟨ha,hnm⟩,hit⟩,hdn⟩,-⟩:=h
  obtain⟨r1,r2⟩:=args_range ha
  simp only[argsOkB,decide_eq_true_eq] at ha
  have two:∀{l:List Ex},l.length=2→∃x y,l=[x,y]:=fun {l} h=>by
   match l,h with
   | [x,y],_=>exact⟨x,y,rfl⟩
  have lone:∀{l:List Ex},l.length=1→∃x,l=[x]:=fun {l} h=>by
   match l,h with
   | [x],_=>exact⟨x,rfl⟩
  intro w hl
  by_cases k1:kd=1
  ·subst k1
   have hl:l=[]:=List.length_eq_zero_iff.1 (by simp[argsOf] at ha;omega)
   subst hl
   exact rtext_1 w
  by_cases k2:kd=2
  ·subst k2
   have hl:l=[]:=List.length_eq_zero_iff.1 (by simp[argsOf] at ha;omega)
   subst hl
   exact rtext_2 ⟨by simpa [intOkB] using hit,hir.2⟩ w
  by_cases k3:kd=3
  ·subst k3
   have hl:l=[]:=List.length_eq_zero_iff.1 (by simp[argsOf] at ha;omega)
   subst hl
   exact rtext_3 w
  by_cases k4:kd=4
  ·subst k4
   have hn:l.length≤32:=by simp[argsOf] at ha;omega
   exact rtext_4 (by omega) (fun x hx=>by obtain⟨i,hi,rfl⟩:=List.getElem_of_mem hx;exact(hsub i hi).1) hlen w hl
  by_cases k5:kd=5
  ·subst k5
   obtain⟨x,rfl⟩:=lone (l:=l) (by simp[argsOf] at ha;omega)
   exact rtext_5 (hat 0 (by simp) 8 (by omega)) (hsub 0 (by simp)).2.1 hlen w hl
  by_cases k6:kd=6
  ·subst k6
   obtain⟨x,rfl⟩:=lone (l:=l) (by simp[argsOf] at ha;omega)
   exact rtext_6 (hat 0 (by simp) 4 (by omega)) hlen w hl
  by_cases k23:kd=23
  ·subst k23
   obtain⟨x,rfl⟩:=lone (l:=l) (by simp[argsOf] at ha;omega)
   exact rtext_23 (hat 0 (by simp) 8 (by omega)) hlen w hl
  by_cases k20:kd=20
  ·subst k20
   obtain⟨x,y,z,rfl⟩:∃x y z,l=[x,y,z]:=by
    have h3:l.length=3:=by simp[argsOf] at ha;omega
    match l,h3 with
    | [x,y,z],_=>exact⟨x,y,z,rfl⟩
   exact rtext_20 (hsub 0 (by simp)).1 (hsub 1 (by simp)).1 (hsub 2 (by simp)).1 hlen w hl
  by_cases k24:kd=24
  ·subst k24
   obtain⟨x,rfl⟩:=lone (l:=l) (by simp[argsOf] at ha;omega)
   have hi:1≤it:=by simpa [intOkB] using hit
   exact rtext_24 (hat 0 (by simp) 9 (by omega)) ⟨by omega,hir.2⟩ hlen w hl
  by_cases k25:kd=25
  ·subst k25
   obtain⟨x,rfl⟩:=lone (l:=l) (by simp[argsOf] at ha;omega)
   have hi:1≤it:=by simpa [intOkB] using hit
   exact rtext_25 (hat 0 (by simp) 9 (by omega)) ⟨by omega,hir.2⟩ hlen w hl
  by_cases k26:kd=26
  ·subst k26
   obtain⟨x,rfl⟩:=lone (l:=l) (by simp[argsOf] at ha;omega)
   have hd:1≤dn:=by simpa [denOkB] using hdn
   exact rtext_26 (hat 0 (by simp) 9 (by omega)) ⟨by simpa [intOkB] using hit,hir.2⟩ ⟨by omega,hdr.2⟩ hlen w hl
  have hk:isTwo kd:=by unfold isTwo;omega
  have h2:argsOf kd=2:=by unfold isTwo at hk;unfold argsOf;rw[if_neg (by omega),if_neg (by omega),if_neg (by omega),if_pos hk]
  obtain⟨x,y,rfl⟩:=two (l:=l) (by rw[h2] at ha;omega)
  by_cases k21:kd=21
  ·subst k21
   exact rtext_21 (hat 0 (by simp) 2 (by omega)) (hat 1 (by simp) 1 (by omega)) hlen w hl
  by_cases k22:kd=22
  ·subst k22
   exact rtext_22 (hat 0 (by simp) 2 (by omega)) (hat 1 (by simp) 1 (by omega)) hlen w hl
  by_cases kc:12≤kd∧kd≤17
  ·exact rtext_cmp kc.1 kc.2 (hat 0 (by simp) 6 (by omega)) (hat 1 (by simp) 6 (by omega)) hlen w hl
  obtain⟨q,rfl⟩:∃q:Nat,kd=q:=⟨kd.toNat,by omega⟩
  obtain⟨o1,o2,o3,o4⟩:=op_facts q (by omega) (by unfold isTwo at hk;omega) (by unfold isTwo at hk;omega) (by omega)
  have hs:=strong_pos (q:Int)
  exact rtext_op (by unfold isTwo at hk;omega) (by unfold isTwo at hk;omega) rfl o1 hs o2 o3 o4 (hat 0 (by simp) _ (by omega)) (hat 1 (by simp) _ (by omega)) hlen w hl
end Go.Proofs.YthbgnpkgglbhjaaGreatDoor
