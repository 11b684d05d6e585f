import Derived.Test.YthbgnpkgglbhjaaGreatDoorExShapes
import Derived.Test.YthbgnpkgglbhjaaGreatDoorTreeName
import Derived.Test.YthbgnpkgglbhjaaGreatDoorShelf
namespace Go.Proofs.YthbgnpkgglbhjaaGreatDoor
open Go.RowKit
open Ex.size Ex.depth Ex.lies Ex.bulk Ex.good Ex.shape
set_option maxHeartbeats 800000 in
theorem clone_calls(s:ByteArray)(w:World)(hs:s.size≤1048576):Calls Tryz.prog 83 #[.string s] w fun e w'=>e=.returned (.string s)∧Below w.heap.size w w':=by
 have HC:∀W:World,Calls Tryz.prog 110 #[.string s] W fun e w'=>e=.returned (.string s)∧Below W.heap.size W w':=fun W=>Any.stringslite_Clone Tryz.laysClone s W (by omega)
 go_enter Tryz.func83,Tryz.ntmps83
 go_wp2_with fail
 refine(HC _).mono ?_
 rintro e w1 ⟨rfl,hb⟩
 go_wp2
 go_ret
 exact⟨rfl,hb⟩
def tabList:List Int:=[-1,0,0,0,-2,1,1,2,2,2,2,2,2,2,2,2,2,2,2,2,3,2,2,1,1,1,1]
def tabOf(c:Int):Int:=tabList.getD c.toNat 0
def HasTab(w:World):Prop:=∀k,k<27→w.cell? ⟨3,k,none⟩=some (.int .i64 (tabList.getD k 0))
theorem HasTab.below{w w':World}(h:HasTab w)(hb:Below w.heap.size w w'):HasTab w':=fun k hk=>by
 rw[←h k hk]
 exact hb.cell (p:=⟨3,k,none⟩) (World.block_lt_of_cell? w ⟨3,0,none⟩ (h 0 (by omega)))
theorem tab_args{c:Int}(h0:0≤c)(h:c<27)(n:Nat):argsOkB c n=if tabOf c=-2 then decide (1≤n∧n≤32) else decide ((n:Int)=tabOf c):=by
 obtain⟨k,rfl⟩:=Int.eq_ofNat_of_zero_le h0
 have hk:k<27:=by omega
 rw[argsOkB]
 have:k=0∨k=1∨k=2∨k=3∨k=4∨k=5∨k=6∨k=7∨k=8∨k=9∨k=10∨k=11∨k=12∨k=13∨k=14∨k=15∨k=16∨k=17∨k=18∨k=19∨k=20∨k=21∨k=22∨k=23∨k=24∨k=25∨k=26:=by omega
 rcases this with rfl|rfl|rfl|rfl|rfl|rfl|rfl|rfl|rfl|rfl|rfl|rfl|rfl|rfl|rfl|rfl|rfl|rfl|rfl|rfl|rfl|rfl|rfl|rfl|rfl|rfl|rfl<;>simp[tabOf,tabList,argsOf]<;>omega
theorem tab_far{c:Int}(h:¬c<27)(n:Nat):argsOkB c n=false:=by
 rw[argsOkB,decide_eq_false_iff_not]
 have:argsOf c=-2:=by
  unfold argsOf
  repeat rw[if_neg (by omega)]
 omega
theorem gr_below{w w':World}(h:Gr w w'):Below w.heap.size w w':=h.below
set_option maxHeartbeats 1600000 in
theorem argsMay_calls(kd pl:Int)(nm:ByteArray)(it dn:Int)(a:Option Addr)(n cap:Nat)(h0:0≤kd)(h1:kd≤255)(hn:n≤1048576)(w:World)(ht:HasTab w) :
  Calls Tryz.prog 156 #[.agg #[.int .u8 kd,.int .i64 pl,.string nm,.int .i64 it,.int .i64 dn,.slice a n cap]] w fun x w'=>x=.returned (.bool (argsOkB kd n))∧Below w.heap.size w w':=by
 by_cases h27:kd<27
 ·have hT:=ht kd.toNat (by omega)
  have hpos:3<w.heap.size:=World.block_lt_of_cell? w ⟨3,kd.toNat,none⟩ hT
  have HE:Hid _:=tab_args h0 h27 n
  rw[show tabList.getD kd.toNat 0=tabOf kd from rfl] at hT
  generalize tabOf kd=t at *
  clear ht
  by_cases h2:t=-2
  ·subst h2
   go_enter Tryz.func156,Tryz.ntmps156
   go_wp2
   all_goals go_ret
   all_goals exact⟨bool_ret (by rw[HE.out,Bool.eq_iff_iff];simp;try omega),gr_below (by with_reducible repeat first|exact Gr.refl _|refine Gr.alloc ?_ _|refine Gr.drewN ?_ _|refine Gr.drew ?_|refine Gr.later ?_ _ _)⟩
  ·go_enter Tryz.func156,Tryz.ntmps156
   go_wp2
   all_goals go_ret
   all_goals exact⟨bool_ret (by rw[HE.out,if_neg h2];first|rfl|(rw[Bool.eq_iff_iff];simp)),gr_below (by with_reducible repeat first|exact Gr.refl _|refine Gr.alloc ?_ _|refine Gr.drewN ?_ _|refine Gr.drew ?_|refine Gr.later ?_ _ _)⟩
 ·have HE:Hid _:=tab_far h27 n
  clear ht
  go_enter Tryz.func156,Tryz.ntmps156
  go_wp2
  all_goals go_ret
  all_goals exact⟨bool_ret (by rw[HE.out]),gr_below (by with_reducible repeat first|exact Gr.refl _|refine Gr.alloc ?_ _|refine Gr.drewN ?_ _|refine Gr.drew ?_|refine Gr.later ?_ _ _)⟩
def numB(kd it dn:Int):Bool:=intOkB kd it&&denOkB kd dn
set_option maxHeartbeats 3200000 in
theorem numbersMay_calls(kd pl:Int)(nm:ByteArray)(it dn:Int)(a:Option Addr)(n cap:Nat)(w:World) :
  Calls Tryz.prog 157 #[.agg #[.int .u8 kd,.int .i64 pl,.string nm,.int .i64 it,.int .i64 dn,.slice a n cap]] w fun x w'=>x=.returned (.bool (numB kd it dn))∧Below w.heap.size w w':=by
 by_cases c2:kd=2
 ·subst c2
  go_enter Tryz.func157,Tryz.ntmps157
  go_wp2
  all_goals go_ret
  all_goals exact⟨bool_ret (by rw[Bool.eq_iff_iff];simp_all [numB,intOkB,denOkB]<;>omega),gr_below (by with_reducible repeat first|exact Gr.refl _|refine Gr.alloc ?_ _|refine Gr.drewN ?_ _|refine Gr.drew ?_|refine Gr.later ?_ _ _)⟩
 by_cases c3:kd=3
 ·subst c3
  go_enter Tryz.func157,Tryz.ntmps157
  go_wp2
  all_goals go_ret
  all_goals exact⟨bool_ret (by rw[Bool.eq_iff_iff];simp_all [numB,intOkB,denOkB]<;>omega),gr_below (by with_reducible repeat first|exact Gr.refl _|refine Gr.alloc ?_ _|refine Gr.drewN ?_ _|refine Gr.drew ?_|refine Gr.later ?_ _ _)⟩
 by_cases c24:kd=24
 ·subst c24
  go_enter Tryz.func157,Tryz.ntmps157
  go_wp2
  all_goals go_ret
  all_goals exact⟨bool_ret (by rw[Bool.eq_iff_iff];simp_all [numB,intOkB,denOkB]<;>omega),gr_below (by with_reducible repeat first|exact Gr.refl _|refine Gr.alloc ?_ _|refine Gr.drewN ?_ _|refine Gr.drew ?_|refine Gr.later ?_ _ _)⟩
 by_cases c25:kd=25
 ·subst c25
  go_enter Tryz.func157,Tryz.ntmps157
  go_wp2
  all_goals go_ret
  all_goals exact⟨bool_ret (by rw[Bool.eq_iff_iff];simp_all [numB,intOkB,denOkB]<;>omega),gr_below (by with_reducible repeat first|exact Gr.refl _|refine Gr.alloc ?_ _|refine Gr.drewN ?_ _|refine Gr.drew ?_|refine Gr.later ?_ _ _)⟩
 by_cases c26:kd=26
 ·subst c26
  go_enter Tryz.func157,Tryz.ntmps157
  go_wp2
  all_goals go_ret
  all_goals exact⟨bool_ret (by rw[Bool.eq_iff_iff];simp_all [numB,intOkB,denOkB]<;>omega),gr_below (by with_reducible repeat first|exact Gr.refl _|refine Gr.alloc ?_ _|refine Gr.drewN ?_ _|refine Gr.drew ?_|refine Gr.later ?_ _ _)⟩
 have HN:Hid (numB kd it dn=((it==0)&&(dn==0))):=by simp[Hid,numB,intOkB,denOkB,c2,c3,c24,c25,c26]
 have d2:(kd==2)=false:=by simpa using c2
 have d3:(kd==3)=false:=by simpa using c3
 have d24:(kd==24)=false:=by simpa using c24
 have d25:(kd==25)=false:=by simpa using c25
 have d26:(kd==26)=false:=by simpa using c26
 go_enter Tryz.func157,Tryz.ntmps157
 go_wp2
 all_goals go_ret
 all_goals exact⟨bool_ret (by rw[HN.out];first|rfl|(simp_all)),gr_below (by with_reducible repeat first|exact Gr.refl _|refine Gr.alloc ?_ _|refine Gr.drewN ?_ _|refine Gr.drew ?_|refine Gr.later ?_ _ _)⟩
set_option maxHeartbeats 1600000 in
theorem nameMay_calls(kd pl:Int)(nm:ByteArray)(it dn:Int)(a:Option Addr)(n cap:Nat)(hs:nm.size≤1048576)(w:World) :
  Calls Tryz.prog 158 #[.agg #[.int .u8 kd,.int .i64 pl,.string nm,.int .i64 it,.int .i64 dn,.slice a n cap]] w fun x w'=>x=.returned (.bool (nameOkB kd nm))∧Below w.heap.size w w':=by
 by_cases c1:kd=1∨kd=4
 ·have HN:Hid (nameOkB kd nm=nameB nm):=by rw[Hid,nameOkB,if_pos c1]
  have CN:=lexName_calls nm (w.alloc (.cells #[.int .u8 kd,.int .i64 pl,.string nm,.int .i64 it,.int .i64 dn,.slice a n cap] 27)) hs
  generalize nameB nm=q at *
  rcases c1 with rfl|rfl
  ·go_enter Tryz.func158,Tryz.ntmps158
   go_wp2_with fail
   refine CN.mono ?_
   rintro x w2 ⟨rfl,hb⟩
   have HB:Hid (Below w.heap.size w w2):=((Below.refl w.heap.size w).alloc (Nat.le_refl _) _).trans (hb.mono (by simp))
   clear hb CN
   go_wp2_with fail
   go_ret
   exact⟨bool_ret HN.out.symm,HB.out⟩
  ·go_enter Tryz.func158,Tryz.ntmps158
   go_wp2_with fail
   refine CN.mono ?_
   rintro x w2 ⟨rfl,hb⟩
   have HB:Hid (Below w.heap.size w w2):=((Below.refl w.heap.size w).alloc (Nat.le_refl _) _).trans (hb.mono (by simp))
   clear hb CN
   go_wp2_with fail
   go_ret
   exact⟨bool_ret HN.out.symm,HB.out⟩
 ·have HN:Hid (nameOkB kd nm=nm.toList.isEmpty):=by rw[Hid,nameOkB,if_neg c1]
  have d1:(kd==1)=false:=by simp;omega
  have d4:(kd==4)=false:=by simp;omega
  clear c1
  go_enter Tryz.func158,Tryz.ntmps158
  go_wp2
  all_goals go_ret
  all_goals exact⟨bool_ret (by first|exact HN.out.symm|(rw[HN.out];first|rfl|simp)),gr_below (by with_reducible repeat first|exact Gr.refl _|refine Gr.alloc ?_ _|refine Gr.drewN ?_ _|refine Gr.drew ?_|refine Gr.later ?_ _ _)⟩
def partOk(e:Ex):Bool:=argsOkB e.kd e.args.length&&numB e.kd e.it e.dn&&nameOkB e.kd e.nm
set_option maxHeartbeats 1600000 in
theorem partMay_calls(e:Ex)(h0:0≤e.kd)(h1:e.kd≤255)(hn:e.args.length≤1048576)(hs:e.nm.size≤1048576)(w:World)(ht:HasTab w) :
  Calls Tryz.prog 146 #[e.val] w fun x w'=>x=.returned (.bool (partOk e))∧Below w.heap.size w w':=by
 obtain⟨kd,pl,nm,it,dn,a,cap,l⟩:=e
 simp only[Ex.val,Ex.cells,List.toArray,partOk] at *
 generalize l.length=n at *
 have hb0:Below w.heap.size w (w.alloc (.cells #[.int .u8 kd,.int .i64 pl,.string nm,.int .i64 it,.int .i64 dn,.slice a n cap] 27)):=bal _
 have CA:=argsMay_calls kd pl nm it dn a n cap h0 h1 hn _ (ht.below hb0)
 have CN:=fun w=>numbersMay_calls kd pl nm it dn a n cap w
 have CM:=fun w=>nameMay_calls kd pl nm it dn a n cap hs w
 generalize argsOkB kd n=qa at *
 generalize numB kd it dn=qn at *
 generalize nameOkB kd nm=qm at *
 have HB0:Hid _:=hb0
 have hlt:w.heap.size<(w.alloc (.cells #[.int .u8 kd,.int .i64 pl,.string nm,.int .i64 it,.int .i64 dn,.slice a n cap] 27)).heap.size:=by simp
 have HLt:Hid _:=hlt
 clear hb0 ht h0 h1 hn hs hlt
 cases qa
 ·go_enter Tryz.func146,Tryz.ntmps146
  go_wp2_with fail
  refine CA.mono ?_
  rintro x w2 ⟨rfl,hb⟩
  have HB:Hid (Below w.heap.size w w2):=HB0.out.trans (hb.mono (by simp))
  clear hb CA CN CM
  go_wp2_with fail
  go_ret
  exact⟨rfl,HB.out⟩
 ·go_enter Tryz.func146,Tryz.ntmps146
  go_wp2_with fail
  refine CA.mono ?_
  rintro x w2 ⟨rfl,hb⟩
  have HB:Hid (Below w.heap.size w w2):=HB0.out.trans (hb.mono (by simp))
  have c0:∀j,j<6→w2.cell? ⟨w.heap.size,j,none⟩=(#[.int .u8 kd,.int .i64 pl,.string nm,.int .i64 it,.int .i64 dn,.slice a n cap]:Array Value)[j]?:=fun j hj=>by
   rw[hb.cell (p:=⟨w.heap.size,j,none⟩) HLt.out,World.cell?_alloc_at _ _ _ _ rfl]
  have HC:Hid _:=c0
  have hlt2:=Nat.lt_of_lt_of_le HLt.out hb.size
  have HLt2:Hid _:=hlt2
  have e0:=c0 0 (by omega)
  have e1:=c0 1 (by omega)
  have e2:=c0 2 (by omega)
  have e3:=c0 3 (by omega)
  have e4:=c0 4 (by omega)
  have e5:=c0 5 (by omega)
  simp at e0 e1 e2 e3 e4 e5
  clear hb CA c0 hlt2
  cases qn
  ·go_wp2_with fail
   refine(CN _).mono ?_
   rintro x w3 ⟨rfl,hb⟩
   have HB3:=hid (HB.out.trans (hb.mono (Nat.le_of_lt HLt2.out)))
   clear hb CN CM e0 e1 e2 e3 e4 e5
   go_wp2_with fail
   go_ret
   exact⟨rfl,HB3.out⟩
  ·go_wp2_with fail
   refine(CN _).mono ?_
   rintro x w3 ⟨rfl,hb⟩
   have HB3:=hid (HB.out.trans (hb.mono (Nat.le_of_lt HLt2.out)))
   have c3:∀j,j<6→w3.cell? ⟨w.heap.size,j,none⟩=(#[.int .u8 kd,.int .i64 pl,.string nm,.int .i64 it,.int .i64 dn,.slice a n cap]:Array Value)[j]?:=fun j hj=>by
    rw[hb.cell (p:=⟨w.heap.size,j,none⟩) HLt2.out,HC.out j hj]
   have HLt3:=hid (Nat.lt_of_lt_of_le HLt2.out hb.size)
   clear e0 e1 e2 e3 e4 e5
   have e0:=c3 0 (by omega)
   have e1:=c3 1 (by omega)
   have e2:=c3 2 (by omega)
   have e3:=c3 3 (by omega)
   have e4:=c3 4 (by omega)
   have e5:=c3 5 (by omega)
   simp at e0 e1 e2 e3 e4 e5
   clear hb CN c3
   go_wp2_with fail
   refine(CM _).mono ?_
   rintro x w4 ⟨rfl,hb⟩
   have HB4:=hid (HB3.out.trans (hb.mono (Nat.le_of_lt HLt3.out)))
   clear hb CM e0 e1 e2 e3 e4 e5
   go_wp2_with fail
   go_ret
   exact⟨rfl,HB4.out⟩
end Go.Proofs.YthbgnpkgglbhjaaGreatDoor
