import Derived.Test.YthbgnpkgglbhjaaGreatDoorExShape
namespace Go.Proofs.YthbgnpkgglbhjaaGreatDoor
open Go.RowKit
open Ex.size Ex.depth Ex.lies Ex.bulk Ex.good
def argsOkB(c:Int)(n:Nat):Bool:=decide ((argsOf c=-1∧1≤n∧n≤32)∨(0≤argsOf c∧argsOf c=n))
def nameOkB(c:Int)(nm:ByteArray):Bool:=if c=1∨c=4 then nameB nm else nm.toList.isEmpty
def intOkB(c it:Int):Bool:=if c=2∨c=26 then decide (0≤it) else if c=3 then (it==0||it==1) else if c=24∨c=25 then decide (1≤it) else it==0
def denOkB(c dn:Int):Bool:=if c=26 then decide (1≤dn) else dn==0
def Ex.shape:Ex→Bool
 | .mk kd _ nm it dn _ _ l=>argsOkB kd l.length&&nameOkB kd nm&&intOkB kd it&&denOkB kd dn&&shapes l
where shapes:List Ex→Bool
 | []=>true
 | e::r=>e.shape&&shapes r
open Ex.shape
theorem shapes_at(l:List Ex)(i:Nat)(h:i<l.length):shapes (l.take (i+1))=(shapes (l.take i)&&l[i].shape):=by
 induction l generalizing i with
 | nil=>simp at h
 | cons e r ih =>
  cases i with
  | zero=>simp[shapes]
  | succ i =>
   have:=ih i (by simpa using h)
   simp only[List.take_succ_cons,shapes,List.getElem_cons_succ]
   rw[this,Bool.and_assoc]
theorem shapes_false(l:List Ex)(i:Nat)(h:i<l.length)(g:l[i].shape=false):shapes l=false:=by
 induction l generalizing i with
 | nil=>simp at h
 | cons e r ih =>
  cases i with
  | zero=>simp only[List.getElem_cons_zero] at g;simp[shapes,g]
  | succ i=>simp[shapes,ih i (by simpa using h) (by simpa using g)]
theorem argsOf_range(c:Int):argsOf c=-2∨argsOf c=-1∨(0≤argsOf c∧argsOf c≤3):=by
 unfold argsOf
 split
 ·simp
 split
 ·simp
 split
 ·simp
 split
 ·simp
 split
 ·simp
 ·simp
structure Cls(c:Int)(b1 b4 b2 b26 b3 b24 b25:Bool):Prop where
 e1:(c==1)=b1
 e4:(c==4)=b4
 e2:(c==2)=b2
 e26:(c==26)=b26
 e3:(c==3)=b3
 e24:(c==24)=b24
 e25:(c==25)=b25
set_option maxRecDepth 100000 in
set_option maxHeartbeats 3200000 in
theorem shape_args(kd pl it dn:Int)(nm:ByteArray)(a:Option Addr)(n cap:Nat)(w:World)(hn:n≤1048576)(h:argsOkB kd n=false) :
  Calls Tryz.prog 79 #[.agg #[.int .u8 kd,.int .i64 pl,.string nm,.int .i64 it,.int .i64 dn,.slice a n cap]] w fun x w'=>x=.returned (.bool false)∧Below w.heap.size w w':=by
 have hr:=argsOf_range kd
 simp only[argsOkB,decide_eq_false_iff_not,not_or] at h
 generalize hA:argsOf kd=A at hr h
 have HA:=hid hA
 have CA:=fun W=>args_calls kd W
 rw[hA] at CA
 clear hA
 rcases hr with rfl|rfl|⟨h0,h3⟩
 ·go_enter Tryz.func79,Tryz.ntmps79
  go_wp2_with fail
  refine(CA _).mono ?_
  rintro x w' ⟨rfl,rfl⟩
  clear CA
  go_wp2_with fail
  go_ret
  exact⟨rfl,bal _⟩
 ·have hor:(decide ((n:Int)<1)=true∧decide (n<1)=true)∨(decide ((n:Int)<1)=false∧decide (n<1)=false∧decide ((32:Int)<(n:Int))=true∧decide (32<n)=true):=by simp;omega
  rcases hor with⟨q1,q2⟩|⟨q1,q2,q3,q4⟩
  all_goals
   clear h
   go_enter Tryz.func79,Tryz.ntmps79
   go_wp2_with fail
   refine(CA _).mono ?_
   rintro x w' ⟨rfl,rfl⟩
   clear CA
   go_wp2_with fail
   go_ret
   exact⟨rfl,bal _⟩
 ·have q1:(A==-2)=false:=beq_false_of_ne (by omega)
  have q2:decide (0≤A)=true:=by simpa using h0
  have q3:((n:Int)==A)=false:=beq_false_of_ne (by intro e;exact h.2 ⟨h0,e.symm⟩)
  have q4:((n:Int) != A)=true:=by simp only[bne,q3];rfl
  clear h
  go_enter Tryz.func79,Tryz.ntmps79
  go_wp2_with fail
  refine(CA _).mono ?_
  rintro x w' ⟨rfl,rfl⟩
  clear CA
  go_wp2_with fail
  go_ret
  exact⟨rfl,bal _⟩
set_option maxRecDepth 100000 in
set_option maxHeartbeats 6400000 in
theorem shape_1(m:Nat)(ih:∀(e:Ex),e.size≤m→e.bulk≤1048576→∀w,e.lies w→Calls Tryz.prog 79 #[e.val] w fun x w'=>x=.returned (.bool e.shape)∧Below w.heap.size w w')
  (n:Nat)(pl it dn:Int)(nm:ByteArray)(a:Option Addr)(cap:Nat)(l:List Ex)(hl:n=l.length)(hm:sizes l≤m)(hg:nm.size+bulks l≤1048575)(hn:n=0)(w:World)(b o:Nat)(hla:l≠[]→a=some ⟨b,o,none⟩)(hlie:lieAt w b o l) :
  Calls Tryz.prog 79 #[.agg #[.int .u8 1,.int .i64 pl,.string nm,.int .i64 it,.int .i64 dn,.slice a n cap]] w fun x w'=>x=.returned (.bool (nameB nm&&(it==0)&&(dn==0)&&shapes l))∧Below w.heap.size w w':=by
 have hnb:nm.size≤1048576:=by omega
 have HIH:Hid _:=ih
 have HL:=hid hl
 have HM:=hid hm
 have HG:=hid hg
 have HLA:Hid _:=hla
 have HLie:Hid _:=hlie
 have CA:=fun W=>args_calls 1 W
 rw[show argsOf 1=0 from by decide] at CA
 clear ih hl hm hg hla hlie
 subst hn
 rcases hnm:(nameB nm) with _|_
 ·clear HIH HL HM HG HLA HLie
  go_enter Tryz.func79,Tryz.ntmps79
  go_wp2_with fail
  refine(CA _).mono ?_
  rintro x w' ⟨rfl,rfl⟩
  go_wp2_with fail
  refine(name_calls nm _ (by omega)).mono ?_
  rintro x w1 ⟨rfl,hgr⟩
  have hb1:=hgr.below
  have d0:w1.cell? ⟨w.heap.size,0,none⟩=some (.int .u8 1):=(hb1.cell (p:=⟨w.heap.size,0,none⟩) (by simp)).trans (by simp)
  have d2:w1.cell? ⟨w.heap.size,2,none⟩=some (.string nm):=(hb1.cell (p:=⟨w.heap.size,2,none⟩) (by simp)).trans (by simp)
  have d3:w1.cell? ⟨w.heap.size,3,none⟩=some (.int .i64 it):=(hb1.cell (p:=⟨w.heap.size,3,none⟩) (by simp)).trans (by simp)
  have d4:w1.cell? ⟨w.heap.size,4,none⟩=some (.int .i64 dn):=(hb1.cell (p:=⟨w.heap.size,4,none⟩) (by simp)).trans (by simp)
  have d5:w1.cell? ⟨w.heap.size,5,none⟩=some (.slice a 0 cap):=(hb1.cell (p:=⟨w.heap.size,5,none⟩) (by simp)).trans (by simp)
  have hsz1:w.heap.size<w1.heap.size:=by have:=hb1.size;simp at this;omega
  have HB1:Hid (Below w.heap.size w w1):=((Below.refl w.heap.size w).alloc (Nat.le_refl _) _).trans (hb1.mono (by simp))
  clear hgr hb1
  go_wp2_with fail
  go_ret
  exact⟨rfl,HB1.out⟩
 rcases h0:((it==0)) with _|_
 ·clear HIH HL HM HG HLA HLie
  go_enter Tryz.func79,Tryz.ntmps79
  go_wp2_with fail
  refine(CA _).mono ?_
  rintro x w' ⟨rfl,rfl⟩
  go_wp2_with fail
  refine(name_calls nm _ (by omega)).mono ?_
  rintro x w1 ⟨rfl,hgr⟩
  have hb1:=hgr.below
  have d0:w1.cell? ⟨w.heap.size,0,none⟩=some (.int .u8 1):=(hb1.cell (p:=⟨w.heap.size,0,none⟩) (by simp)).trans (by simp)
  have d2:w1.cell? ⟨w.heap.size,2,none⟩=some (.string nm):=(hb1.cell (p:=⟨w.heap.size,2,none⟩) (by simp)).trans (by simp)
  have d3:w1.cell? ⟨w.heap.size,3,none⟩=some (.int .i64 it):=(hb1.cell (p:=⟨w.heap.size,3,none⟩) (by simp)).trans (by simp)
  have d4:w1.cell? ⟨w.heap.size,4,none⟩=some (.int .i64 dn):=(hb1.cell (p:=⟨w.heap.size,4,none⟩) (by simp)).trans (by simp)
  have d5:w1.cell? ⟨w.heap.size,5,none⟩=some (.slice a 0 cap):=(hb1.cell (p:=⟨w.heap.size,5,none⟩) (by simp)).trans (by simp)
  have hsz1:w.heap.size<w1.heap.size:=by have:=hb1.size;simp at this;omega
  have HB1:Hid (Below w.heap.size w w1):=((Below.refl w.heap.size w).alloc (Nat.le_refl _) _).trans (hb1.mono (by simp))
  clear hgr hb1
  go_wp2_with fail
  go_ret
  exact⟨rfl,HB1.out⟩
 ·skip
  rcases hd:(dn==0) with _|_
  ·have hd2:(dn != 0)=true:=by simp only[bne,hd];rfl
   clear HIH HL HM HG HLA HLie
   go_enter Tryz.func79,Tryz.ntmps79
   go_wp2_with fail
   refine(CA _).mono ?_
   rintro x w' ⟨rfl,rfl⟩
   go_wp2_with fail
   refine(name_calls nm _ (by omega)).mono ?_
   rintro x w1 ⟨rfl,hgr⟩
   have hb1:=hgr.below
   have d0:w1.cell? ⟨w.heap.size,0,none⟩=some (.int .u8 1):=(hb1.cell (p:=⟨w.heap.size,0,none⟩) (by simp)).trans (by simp)
   have d2:w1.cell? ⟨w.heap.size,2,none⟩=some (.string nm):=(hb1.cell (p:=⟨w.heap.size,2,none⟩) (by simp)).trans (by simp)
   have d3:w1.cell? ⟨w.heap.size,3,none⟩=some (.int .i64 it):=(hb1.cell (p:=⟨w.heap.size,3,none⟩) (by simp)).trans (by simp)
   have d4:w1.cell? ⟨w.heap.size,4,none⟩=some (.int .i64 dn):=(hb1.cell (p:=⟨w.heap.size,4,none⟩) (by simp)).trans (by simp)
   have d5:w1.cell? ⟨w.heap.size,5,none⟩=some (.slice a 0 cap):=(hb1.cell (p:=⟨w.heap.size,5,none⟩) (by simp)).trans (by simp)
   have hsz1:w.heap.size<w1.heap.size:=by have:=hb1.size;simp at this;omega
   have HB1:Hid (Below w.heap.size w w1):=((Below.refl w.heap.size w).alloc (Nat.le_refl _) _).trans (hb1.mono (by simp))
   clear hgr hb1
   go_wp2_with fail
   go_ret
   exact⟨rfl,HB1.out⟩
  ·have hd2:(dn != 0)=false:=by simp only[bne,hd];rfl
   go_enter Tryz.func79,Tryz.ntmps79
   go_wp2_with fail
   refine(CA _).mono ?_
   rintro x w' ⟨rfl,rfl⟩
   go_wp2_with fail
   refine(name_calls nm _ (by omega)).mono ?_
   rintro x w1 ⟨rfl,hgr⟩
   have hb1:=hgr.below
   have d0:w1.cell? ⟨w.heap.size,0,none⟩=some (.int .u8 1):=(hb1.cell (p:=⟨w.heap.size,0,none⟩) (by simp)).trans (by simp)
   have d2:w1.cell? ⟨w.heap.size,2,none⟩=some (.string nm):=(hb1.cell (p:=⟨w.heap.size,2,none⟩) (by simp)).trans (by simp)
   have d3:w1.cell? ⟨w.heap.size,3,none⟩=some (.int .i64 it):=(hb1.cell (p:=⟨w.heap.size,3,none⟩) (by simp)).trans (by simp)
   have d4:w1.cell? ⟨w.heap.size,4,none⟩=some (.int .i64 dn):=(hb1.cell (p:=⟨w.heap.size,4,none⟩) (by simp)).trans (by simp)
   have d5:w1.cell? ⟨w.heap.size,5,none⟩=some (.slice a 0 cap):=(hb1.cell (p:=⟨w.heap.size,5,none⟩) (by simp)).trans (by simp)
   have hsz1:w.heap.size<w1.heap.size:=by have:=hb1.size;simp at this;omega
   have HB1:Hid (Below w.heap.size w w1):=((Below.refl w.heap.size w).alloc (Nat.le_refl _) _).trans (hb1.mono (by simp))
   clear hgr hb1
   go_wp2_with fail
   go_loopw [6] (fun i wr=>∃k:Nat,k≤0∧i=.int .i64 k∧Hid (shapes (l.take k)=true)∧wr.cell? ⟨w.heap.size,5,none⟩=some (.slice a 0 cap)∧w.heap.size<wr.heap.size∧Hid (Below w.heap.size w wr)) (fun i _=>0-(intOf i).toNat)
   case atStart=>exact⟨0,by omega,rfl,rfl,d5,hsz1,HB1⟩
   case round =>
    obtain⟨k,hk,rfl,HS,hbox,hsz,HB⟩:=hrel
    by_cases hlt:k<0
    ·exact absurd hlt (by omega)
    ·have HST:Hid (shapes l=true):=by
      have h1:=HS.out
      rw[List.take_of_length_le (by rw[←HL.out];omega)] at h1
      exact h1
     go_wp2_with fail
     go_ret
     exact⟨bool_ret (by rw[HST.out];rfl),HB.out⟩
set_option maxRecDepth 100000 in
set_option maxHeartbeats 6400000 in
theorem shape_4(m:Nat)(ih:∀(e:Ex),e.size≤m→e.bulk≤1048576→∀w,e.lies w→Calls Tryz.prog 79 #[e.val] w fun x w'=>x=.returned (.bool e.shape)∧Below w.heap.size w w')
  (n:Nat)(pl it dn:Int)(nm:ByteArray)(a:Option Addr)(cap:Nat)(l:List Ex)(hl:n=l.length)(hm:sizes l≤m)(hg:nm.size+bulks l≤1048575)(hn1:1≤n)(hn2:n≤32)(w:World)(b o:Nat)(hla:l≠[]→a=some ⟨b,o,none⟩)(hlie:lieAt w b o l) :
  Calls Tryz.prog 79 #[.agg #[.int .u8 4,.int .i64 pl,.string nm,.int .i64 it,.int .i64 dn,.slice a n cap]] w fun x w'=>x=.returned (.bool (nameB nm&&(it==0)&&(dn==0)&&shapes l))∧Below w.heap.size w w':=by
 have hnb:nm.size≤1048576:=by omega
 have HIH:Hid _:=ih
 have HL:=hid hl
 have HM:=hid hm
 have HG:=hid hg
 have HLA:Hid _:=hla
 have HLie:Hid _:=hlie
 have CA:=fun W=>args_calls 4 W
 rw[show argsOf 4=-1 from by decide] at CA
 clear ih hl hm hg hla hlie
 have r1:decide ((n:Int)<1)=false:=by simp;omega
 have r2:decide (n<1)=false:=by simp;omega
 have r3:decide ((32:Int)<(n:Int))=false:=by simp;omega
 have r4:decide (32<n)=false:=by simp;omega
 rcases hnm:(nameB nm) with _|_
 ·clear HIH HL HM HG HLA HLie
  go_enter Tryz.func79,Tryz.ntmps79
  go_wp2_with fail
  refine(CA _).mono ?_
  rintro x w' ⟨rfl,rfl⟩
  go_wp2_with fail
  refine(name_calls nm _ (by omega)).mono ?_
  rintro x w1 ⟨rfl,hgr⟩
  have hb1:=hgr.below
  have d0:w1.cell? ⟨w.heap.size,0,none⟩=some (.int .u8 4):=(hb1.cell (p:=⟨w.heap.size,0,none⟩) (by simp)).trans (by simp)
  have d2:w1.cell? ⟨w.heap.size,2,none⟩=some (.string nm):=(hb1.cell (p:=⟨w.heap.size,2,none⟩) (by simp)).trans (by simp)
  have d3:w1.cell? ⟨w.heap.size,3,none⟩=some (.int .i64 it):=(hb1.cell (p:=⟨w.heap.size,3,none⟩) (by simp)).trans (by simp)
  have d4:w1.cell? ⟨w.heap.size,4,none⟩=some (.int .i64 dn):=(hb1.cell (p:=⟨w.heap.size,4,none⟩) (by simp)).trans (by simp)
  have d5:w1.cell? ⟨w.heap.size,5,none⟩=some (.slice a n cap):=(hb1.cell (p:=⟨w.heap.size,5,none⟩) (by simp)).trans (by simp)
  have hsz1:w.heap.size<w1.heap.size:=by have:=hb1.size;simp at this;omega
  have HB1:Hid (Below w.heap.size w w1):=((Below.refl w.heap.size w).alloc (Nat.le_refl _) _).trans (hb1.mono (by simp))
  clear hgr hb1
  go_wp2_with fail
  go_ret
  exact⟨rfl,HB1.out⟩
 rcases h0:((it==0)) with _|_
 ·clear HIH HL HM HG HLA HLie
  go_enter Tryz.func79,Tryz.ntmps79
  go_wp2_with fail
  refine(CA _).mono ?_
  rintro x w' ⟨rfl,rfl⟩
  go_wp2_with fail
  refine(name_calls nm _ (by omega)).mono ?_
  rintro x w1 ⟨rfl,hgr⟩
  have hb1:=hgr.below
  have d0:w1.cell? ⟨w.heap.size,0,none⟩=some (.int .u8 4):=(hb1.cell (p:=⟨w.heap.size,0,none⟩) (by simp)).trans (by simp)
  have d2:w1.cell? ⟨w.heap.size,2,none⟩=some (.string nm):=(hb1.cell (p:=⟨w.heap.size,2,none⟩) (by simp)).trans (by simp)
  have d3:w1.cell? ⟨w.heap.size,3,none⟩=some (.int .i64 it):=(hb1.cell (p:=⟨w.heap.size,3,none⟩) (by simp)).trans (by simp)
  have d4:w1.cell? ⟨w.heap.size,4,none⟩=some (.int .i64 dn):=(hb1.cell (p:=⟨w.heap.size,4,none⟩) (by simp)).trans (by simp)
  have d5:w1.cell? ⟨w.heap.size,5,none⟩=some (.slice a n cap):=(hb1.cell (p:=⟨w.heap.size,5,none⟩) (by simp)).trans (by simp)
  have hsz1:w.heap.size<w1.heap.size:=by have:=hb1.size;simp at this;omega
  have HB1:Hid (Below w.heap.size w w1):=((Below.refl w.heap.size w).alloc (Nat.le_refl _) _).trans (hb1.mono (by simp))
  clear hgr hb1
  go_wp2_with fail
  go_ret
  exact⟨rfl,HB1.out⟩
 ·skip
  rcases hd:(dn==0) with _|_
  ·have hd2:(dn != 0)=true:=by simp only[bne,hd];rfl
   clear HIH HL HM HG HLA HLie
   go_enter Tryz.func79,Tryz.ntmps79
   go_wp2_with fail
   refine(CA _).mono ?_
   rintro x w' ⟨rfl,rfl⟩
   go_wp2_with fail
   refine(name_calls nm _ (by omega)).mono ?_
   rintro x w1 ⟨rfl,hgr⟩
   have hb1:=hgr.below
   have d0:w1.cell? ⟨w.heap.size,0,none⟩=some (.int .u8 4):=(hb1.cell (p:=⟨w.heap.size,0,none⟩) (by simp)).trans (by simp)
   have d2:w1.cell? ⟨w.heap.size,2,none⟩=some (.string nm):=(hb1.cell (p:=⟨w.heap.size,2,none⟩) (by simp)).trans (by simp)
   have d3:w1.cell? ⟨w.heap.size,3,none⟩=some (.int .i64 it):=(hb1.cell (p:=⟨w.heap.size,3,none⟩) (by simp)).trans (by simp)
   have d4:w1.cell? ⟨w.heap.size,4,none⟩=some (.int .i64 dn):=(hb1.cell (p:=⟨w.heap.size,4,none⟩) (by simp)).trans (by simp)
   have d5:w1.cell? ⟨w.heap.size,5,none⟩=some (.slice a n cap):=(hb1.cell (p:=⟨w.heap.size,5,none⟩) (by simp)).trans (by simp)
   have hsz1:w.heap.size<w1.heap.size:=by have:=hb1.size;simp at this;omega
   have HB1:Hid (Below w.heap.size w w1):=((Below.refl w.heap.size w).alloc (Nat.le_refl _) _).trans (hb1.mono (by simp))
   clear hgr hb1
   go_wp2_with fail
   go_ret
   exact⟨rfl,HB1.out⟩
  ·have hd2:(dn != 0)=false:=by simp only[bne,hd];rfl
   go_enter Tryz.func79,Tryz.ntmps79
   go_wp2_with fail
   refine(CA _).mono ?_
   rintro x w' ⟨rfl,rfl⟩
   go_wp2_with fail
   refine(name_calls nm _ (by omega)).mono ?_
   rintro x w1 ⟨rfl,hgr⟩
   have hb1:=hgr.below
   have d0:w1.cell? ⟨w.heap.size,0,none⟩=some (.int .u8 4):=(hb1.cell (p:=⟨w.heap.size,0,none⟩) (by simp)).trans (by simp)
   have d2:w1.cell? ⟨w.heap.size,2,none⟩=some (.string nm):=(hb1.cell (p:=⟨w.heap.size,2,none⟩) (by simp)).trans (by simp)
   have d3:w1.cell? ⟨w.heap.size,3,none⟩=some (.int .i64 it):=(hb1.cell (p:=⟨w.heap.size,3,none⟩) (by simp)).trans (by simp)
   have d4:w1.cell? ⟨w.heap.size,4,none⟩=some (.int .i64 dn):=(hb1.cell (p:=⟨w.heap.size,4,none⟩) (by simp)).trans (by simp)
   have d5:w1.cell? ⟨w.heap.size,5,none⟩=some (.slice a n cap):=(hb1.cell (p:=⟨w.heap.size,5,none⟩) (by simp)).trans (by simp)
   have hsz1:w.heap.size<w1.heap.size:=by have:=hb1.size;simp at this;omega
   have HB1:Hid (Below w.heap.size w w1):=((Below.refl w.heap.size w).alloc (Nat.le_refl _) _).trans (hb1.mono (by simp))
   clear hgr hb1
   go_wp2_with fail
   go_loopw [6] (fun i wr=>∃k:Nat,k≤n∧i=.int .i64 k∧Hid (shapes (l.take k)=true)∧wr.cell? ⟨w.heap.size,5,none⟩=some (.slice a n cap)∧w.heap.size<wr.heap.size∧Hid (Below w.heap.size w wr)) (fun i _=>n-(intOf i).toNat)
   case atStart=>exact⟨0,by omega,rfl,rfl,d5,hsz1,HB1⟩
   case round =>
    obtain⟨k,hk,rfl,HS,hbox,hsz,HB⟩:=hrel
    by_cases hlt:k<n
    ·have hkl:k<l.length:=by rw[←HL.out];exact hlt
     obtain rfl:=HLA.out (by intro h;rw[h] at hkl;simp at hkl)
     obtain⟨hc,hli⟩:=lieAt_get l o k HLie.out hkl
     have hs3:=size_arg hkl
     have hb3:=bulk_arg hkl
     have hblk:b<w.heap.size:=by
      have h0:=hc 0 (by omega)
      cases hx:l[k]
      rw[hx] at h0
      exact World.block_lt_of_cell? w ⟨b,_,none⟩ h0
     have hcr:∀j,j<6→wr.cell? ⟨b,o+k*6+j,none⟩=l[k].cells[j]?:=fun j hj=>(HB.out.cell (p:=⟨b,o+k*6+j,none⟩) hblk).trans (hc j hj)
     have CC:=HIH.out l[k] (by have:=HM.out;omega) (by have:=HG.out;omega) wr (lies_below HB.out _ hli)
     have HF:=hid (shapes_false l k hkl)
     have HS2:Hid (l[k].shape=true→shapes (l.take (k+1))=true):=fun h=>by rw[shapes_at l k hkl,HS.out,h];rfl
     generalize l[k]=y at hcr CC HF HS2
     obtain⟨kd',pl',nm',it',dn',a',cap',l'⟩:=y
     have c0:wr.cell? ⟨b,o+k*6,none⟩=some (.int .u8 kd'):=hcr 0 (by omega)
     have c1:wr.cell? ⟨b,o+k*6+1,none⟩=some (.int .i64 pl'):=hcr 1 (by omega)
     have c2:wr.cell? ⟨b,o+k*6+2,none⟩=some (.string nm'):=hcr 2 (by omega)
     have c3:wr.cell? ⟨b,o+k*6+3,none⟩=some (.int .i64 it'):=hcr 3 (by omega)
     have c4:wr.cell? ⟨b,o+k*6+4,none⟩=some (.int .i64 dn'):=hcr 4 (by omega)
     have c5:wr.cell? ⟨b,o+k*6+5,none⟩=some (.slice a' l'.length cap'):=hcr 5 (by omega)
     simp only[Ex.val,Ex.cells,List.toArray] at CC
     generalize hsh:Ex.shape (.mk kd' pl' nm' it' dn' a' cap' l')=z at CC HF HS2
     clear hc hcr hli hs3 hb3 hblk hkl hsh
     rcases z with _|_
     ·have HFF:Hid (shapes l=false):=HF.out rfl
      go_wp2_with fail
      refine CC.mono ?_
      rintro x w2 ⟨rfl,hb2⟩
      have HB2:Hid (Below w.heap.size w w2):=HB.out.trans (hb2.mono (by omega))
      clear CC hb2
      go_wp2_with fail
      go_ret
      exact⟨bool_ret (by rw[HFF.out];simp),HB2.out⟩
     ·have HST:Hid (shapes (l.take (k+1))=true):=HS2.out rfl
      go_wp2_with fail
      refine CC.mono ?_
      rintro x w2 ⟨rfl,hb2⟩
      have hbox2:w2.cell? ⟨w.heap.size,5,none⟩=some (.slice (some ⟨b,o,none⟩) n cap):=(hb2.cell (p:=⟨w.heap.size,5,none⟩) hsz).trans hbox
      have hsz2:w.heap.size<w2.heap.size:=by have:=hb2.size;omega
      have HB2:Hid (Below w.heap.size w w2):=HB.out.trans (hb2.mono (by omega))
      clear CC hb2 c0 c1 c2 c3 c4 c5 hbox hsz HB
      go_wp2_with fail
      go_roundw
      case rel=>exact⟨k+1,by omega,by go_num,HST,hbox2,hsz2,HB2⟩
      case measure=>simp[intOf];omega
    ·have HST:Hid (shapes l=true):=by
      have h1:=HS.out
      rw[List.take_of_length_le (by rw[←HL.out];omega)] at h1
      exact h1
     go_wp2_with fail
     go_ret
     exact⟨bool_ret (by rw[HST.out];rfl),HB.out⟩
set_option maxRecDepth 100000 in
set_option maxHeartbeats 6400000 in
theorem shape_2(m:Nat)(ih:∀(e:Ex),e.size≤m→e.bulk≤1048576→∀w,e.lies w→Calls Tryz.prog 79 #[e.val] w fun x w'=>x=.returned (.bool e.shape)∧Below w.heap.size w w')
  (n:Nat)(pl it dn:Int)(nm:ByteArray)(a:Option Addr)(cap:Nat)(l:List Ex)(hl:n=l.length)(hm:sizes l≤m)(hg:nm.size+bulks l≤1048575)(hn:n=0)(w:World)(b o:Nat)(hla:l≠[]→a=some ⟨b,o,none⟩)(hlie:lieAt w b o l) :
  Calls Tryz.prog 79 #[.agg #[.int .u8 2,.int .i64 pl,.string nm,.int .i64 it,.int .i64 dn,.slice a n cap]] w fun x w'=>x=.returned (.bool (nm.toList.isEmpty&&decide (0≤it)&&(dn==0)&&shapes l))∧Below w.heap.size w w':=by
 have hnb:nm.size≤1048576:=by omega
 have HIH:Hid _:=ih
 have HL:=hid hl
 have HM:=hid hm
 have HG:=hid hg
 have HLA:Hid _:=hla
 have HLie:Hid _:=hlie
 have CA:=fun W=>args_calls 2 W
 rw[show argsOf 2=0 from by decide] at CA
 clear ih hl hm hg hla hlie
 subst hn
 rcases hnm:(nm.toList.isEmpty) with _|_
 ·clear HIH HL HM HG HLA HLie
  go_enter Tryz.func79,Tryz.ntmps79
  go_wp2_with fail
  refine(CA _).mono ?_
  rintro x w' ⟨rfl,rfl⟩
  go_wp2_with fail
  go_ret
  exact⟨rfl,bal _⟩
 rcases h0:(decide (0≤it)) with _|_
 ·clear HIH HL HM HG HLA HLie
  go_enter Tryz.func79,Tryz.ntmps79
  go_wp2_with fail
  refine(CA _).mono ?_
  rintro x w' ⟨rfl,rfl⟩
  go_wp2_with fail
  go_ret
  exact⟨rfl,bal _⟩
 ·skip
  rcases hd:(dn==0) with _|_
  ·have hd2:(dn != 0)=true:=by simp only[bne,hd];rfl
   clear HIH HL HM HG HLA HLie
   go_enter Tryz.func79,Tryz.ntmps79
   go_wp2_with fail
   refine(CA _).mono ?_
   rintro x w' ⟨rfl,rfl⟩
   go_wp2_with fail
   go_ret
   exact⟨rfl,bal _⟩
  ·have hd2:(dn != 0)=false:=by simp only[bne,hd];rfl
   go_enter Tryz.func79,Tryz.ntmps79
   go_wp2_with fail
   refine(CA _).mono ?_
   rintro x w' ⟨rfl,rfl⟩
   go_wp2_with fail
   go_loopw [6] (fun i wr=>∃k:Nat,k≤0∧i=.int .i64 k∧Hid (shapes (l.take k)=true)∧wr.cell? ⟨w.heap.size,5,none⟩=some (.slice a 0 cap)∧w.heap.size<wr.heap.size∧Hid (Below w.heap.size w wr)) (fun i _=>0-(intOf i).toNat)
   case atStart=>exact⟨0,by omega,rfl,rfl,by simp,by simp,bal _⟩
   case round =>
    obtain⟨k,hk,rfl,HS,hbox,hsz,HB⟩:=hrel
    by_cases hlt:k<0
    ·exact absurd hlt (by omega)
    ·have HST:Hid (shapes l=true):=by
      have h1:=HS.out
      rw[List.take_of_length_le (by rw[←HL.out];omega)] at h1
      exact h1
     go_wp2_with fail
     go_ret
     exact⟨bool_ret (by rw[HST.out];rfl),HB.out⟩
set_option maxRecDepth 100000 in
set_option maxHeartbeats 6400000 in
theorem shape_26(m:Nat)(ih:∀(e:Ex),e.size≤m→e.bulk≤1048576→∀w,e.lies w→Calls Tryz.prog 79 #[e.val] w fun x w'=>x=.returned (.bool e.shape)∧Below w.heap.size w w')
  (n:Nat)(pl it dn:Int)(nm:ByteArray)(a:Option Addr)(cap:Nat)(l:List Ex)(hl:n=l.length)(hm:sizes l≤m)(hg:nm.size+bulks l≤1048575)(hn:n=1)(w:World)(b o:Nat)(hla:l≠[]→a=some ⟨b,o,none⟩)(hlie:lieAt w b o l) :
  Calls Tryz.prog 79 #[.agg #[.int .u8 26,.int .i64 pl,.string nm,.int .i64 it,.int .i64 dn,.slice a n cap]] w fun x w'=>x=.returned (.bool (nm.toList.isEmpty&&decide (0≤it)&&decide (1≤dn)&&shapes l))∧Below w.heap.size w w':=by
 have hnb:nm.size≤1048576:=by omega
 have HIH:Hid _:=ih
 have HL:=hid hl
 have HM:=hid hm
 have HG:=hid hg
 have HLA:Hid _:=hla
 have HLie:Hid _:=hlie
 have CA:=fun W=>args_calls 26 W
 rw[show argsOf 26=1 from by decide] at CA
 clear ih hl hm hg hla hlie
 subst hn
 rcases hnm:(nm.toList.isEmpty) with _|_
 ·clear HIH HL HM HG HLA HLie
  go_enter Tryz.func79,Tryz.ntmps79
  go_wp2_with fail
  refine(CA _).mono ?_
  rintro x w' ⟨rfl,rfl⟩
  go_wp2_with fail
  go_ret
  exact⟨rfl,bal _⟩
 rcases h0:(decide (0≤it)) with _|_
 ·clear HIH HL HM HG HLA HLie
  go_enter Tryz.func79,Tryz.ntmps79
  go_wp2_with fail
  refine(CA _).mono ?_
  rintro x w' ⟨rfl,rfl⟩
  go_wp2_with fail
  go_ret
  exact⟨rfl,bal _⟩
 ·skip
  rcases hd:decide (1≤dn) with _|_
  ·have hd2:decide (dn<1)=true:=by simp only[decide_eq_false_iff_not] at hd;simp;omega
   clear HIH HL HM HG HLA HLie
   go_enter Tryz.func79,Tryz.ntmps79
   go_wp2_with fail
   refine(CA _).mono ?_
   rintro x w' ⟨rfl,rfl⟩
   go_wp2_with fail
   go_ret
   exact⟨rfl,bal _⟩
  ·have hd2:decide (dn<1)=false:=by simp only[decide_eq_true_eq] at hd;simp;omega
   go_enter Tryz.func79,Tryz.ntmps79
   go_wp2_with fail
   refine(CA _).mono ?_
   rintro x w' ⟨rfl,rfl⟩
   go_wp2_with fail
   go_loopw [6] (fun i wr=>∃k:Nat,k≤1∧i=.int .i64 k∧Hid (shapes (l.take k)=true)∧wr.cell? ⟨w.heap.size,5,none⟩=some (.slice a 1 cap)∧w.heap.size<wr.heap.size∧Hid (Below w.heap.size w wr)) (fun i _=>1-(intOf i).toNat)
   case atStart=>exact⟨0,by omega,rfl,rfl,by simp,by simp,bal _⟩
   case round =>
    obtain⟨k,hk,rfl,HS,hbox,hsz,HB⟩:=hrel
    by_cases hlt:k<1
    ·have hkl:k<l.length:=by rw[←HL.out];exact hlt
     obtain rfl:=HLA.out (by intro h;rw[h] at hkl;simp at hkl)
     obtain⟨hc,hli⟩:=lieAt_get l o k HLie.out hkl
     have hs3:=size_arg hkl
     have hb3:=bulk_arg hkl
     have hblk:b<w.heap.size:=by
      have h0:=hc 0 (by omega)
      cases hx:l[k]
      rw[hx] at h0
      exact World.block_lt_of_cell? w ⟨b,_,none⟩ h0
     have hcr:∀j,j<6→wr.cell? ⟨b,o+k*6+j,none⟩=l[k].cells[j]?:=fun j hj=>(HB.out.cell (p:=⟨b,o+k*6+j,none⟩) hblk).trans (hc j hj)
     have CC:=HIH.out l[k] (by have:=HM.out;omega) (by have:=HG.out;omega) wr (lies_below HB.out _ hli)
     have HF:=hid (shapes_false l k hkl)
     have HS2:Hid (l[k].shape=true→shapes (l.take (k+1))=true):=fun h=>by rw[shapes_at l k hkl,HS.out,h];rfl
     generalize l[k]=y at hcr CC HF HS2
     obtain⟨kd',pl',nm',it',dn',a',cap',l'⟩:=y
     have c0:wr.cell? ⟨b,o+k*6,none⟩=some (.int .u8 kd'):=hcr 0 (by omega)
     have c1:wr.cell? ⟨b,o+k*6+1,none⟩=some (.int .i64 pl'):=hcr 1 (by omega)
     have c2:wr.cell? ⟨b,o+k*6+2,none⟩=some (.string nm'):=hcr 2 (by omega)
     have c3:wr.cell? ⟨b,o+k*6+3,none⟩=some (.int .i64 it'):=hcr 3 (by omega)
     have c4:wr.cell? ⟨b,o+k*6+4,none⟩=some (.int .i64 dn'):=hcr 4 (by omega)
     have c5:wr.cell? ⟨b,o+k*6+5,none⟩=some (.slice a' l'.length cap'):=hcr 5 (by omega)
     simp only[Ex.val,Ex.cells,List.toArray] at CC
     generalize hsh:Ex.shape (.mk kd' pl' nm' it' dn' a' cap' l')=z at CC HF HS2
     clear hc hcr hli hs3 hb3 hblk hkl hsh
     rcases z with _|_
     ·have HFF:Hid (shapes l=false):=HF.out rfl
      go_wp2_with fail
      refine CC.mono ?_
      rintro x w2 ⟨rfl,hb2⟩
      have HB2:Hid (Below w.heap.size w w2):=HB.out.trans (hb2.mono (by omega))
      clear CC hb2
      go_wp2_with fail
      go_ret
      exact⟨bool_ret (by rw[HFF.out];simp),HB2.out⟩
     ·have HST:Hid (shapes (l.take (k+1))=true):=HS2.out rfl
      go_wp2_with fail
      refine CC.mono ?_
      rintro x w2 ⟨rfl,hb2⟩
      have hbox2:w2.cell? ⟨w.heap.size,5,none⟩=some (.slice (some ⟨b,o,none⟩) 1 cap):=(hb2.cell (p:=⟨w.heap.size,5,none⟩) hsz).trans hbox
      have hsz2:w.heap.size<w2.heap.size:=by have:=hb2.size;omega
      have HB2:Hid (Below w.heap.size w w2):=HB.out.trans (hb2.mono (by omega))
      clear CC hb2 c0 c1 c2 c3 c4 c5 hbox hsz HB
      go_wp2_with fail
      go_roundw
      case rel=>exact⟨k+1,by omega,by go_num,HST,hbox2,hsz2,HB2⟩
      case measure=>simp[intOf];omega
    ·have HST:Hid (shapes l=true):=by
      have h1:=HS.out
      rw[List.take_of_length_le (by rw[←HL.out];omega)] at h1
      exact h1
     go_wp2_with fail
     go_ret
     exact⟨bool_ret (by rw[HST.out];rfl),HB.out⟩
set_option maxRecDepth 100000 in
set_option maxHeartbeats 6400000 in
theorem shape_3(m:Nat)(ih:∀(e:Ex),e.size≤m→e.bulk≤1048576→∀w,e.lies w→Calls Tryz.prog 79 #[e.val] w fun x w'=>x=.returned (.bool e.shape)∧Below w.heap.size w w')
  (n:Nat)(pl it dn:Int)(nm:ByteArray)(a:Option Addr)(cap:Nat)(l:List Ex)(hl:n=l.length)(hm:sizes l≤m)(hg:nm.size+bulks l≤1048575)(hn:n=0)(w:World)(b o:Nat)(hla:l≠[]→a=some ⟨b,o,none⟩)(hlie:lieAt w b o l) :
  Calls Tryz.prog 79 #[.agg #[.int .u8 3,.int .i64 pl,.string nm,.int .i64 it,.int .i64 dn,.slice a n cap]] w fun x w'=>x=.returned (.bool (nm.toList.isEmpty&&(it==0||it==1)&&(dn==0)&&shapes l))∧Below w.heap.size w w':=by
 have hnb:nm.size≤1048576:=by omega
 have HIH:Hid _:=ih
 have HL:=hid hl
 have HM:=hid hm
 have HG:=hid hg
 have HLA:Hid _:=hla
 have HLie:Hid _:=hlie
 have CA:=fun W=>args_calls 3 W
 rw[show argsOf 3=0 from by decide] at CA
 clear ih hl hm hg hla hlie
 subst hn
 rcases hnm:(nm.toList.isEmpty) with _|_
 ·clear HIH HL HM HG HLA HLie
  go_enter Tryz.func79,Tryz.ntmps79
  go_wp2_with fail
  refine(CA _).mono ?_
  rintro x w' ⟨rfl,rfl⟩
  go_wp2_with fail
  go_ret
  exact⟨rfl,bal _⟩
 rcases h0:(it==0) with _|_
 ·rcases h1:(it==1) with _|_
  ·clear HIH HL HM HG HLA HLie
   go_enter Tryz.func79,Tryz.ntmps79
   go_wp2_with fail
   refine(CA _).mono ?_
   rintro x w' ⟨rfl,rfl⟩
   go_wp2_with fail
   go_ret
   exact⟨rfl,bal _⟩
  ·skip
   rcases hd:(dn==0) with _|_
   ·have hd2:(dn != 0)=true:=by simp only[bne,hd];rfl
    clear HIH HL HM HG HLA HLie
    go_enter Tryz.func79,Tryz.ntmps79
    go_wp2_with fail
    refine(CA _).mono ?_
    rintro x w' ⟨rfl,rfl⟩
    go_wp2_with fail
    go_ret
    exact⟨rfl,bal _⟩
   ·have hd2:(dn != 0)=false:=by simp only[bne,hd];rfl
    go_enter Tryz.func79,Tryz.ntmps79
    go_wp2_with fail
    refine(CA _).mono ?_
    rintro x w' ⟨rfl,rfl⟩
    go_wp2_with fail
    go_loopw [6] (fun i wr=>∃k:Nat,k≤0∧i=.int .i64 k∧Hid (shapes (l.take k)=true)∧wr.cell? ⟨w.heap.size,5,none⟩=some (.slice a 0 cap)∧w.heap.size<wr.heap.size∧Hid (Below w.heap.size w wr)) (fun i _=>0-(intOf i).toNat)
    case atStart=>exact⟨0,by omega,rfl,rfl,by simp,by simp,bal _⟩
    case round =>
     obtain⟨k,hk,rfl,HS,hbox,hsz,HB⟩:=hrel
     by_cases hlt:k<0
     ·exact absurd hlt (by omega)
     ·have HST:Hid (shapes l=true):=by
       have h1:=HS.out
       rw[List.take_of_length_le (by rw[←HL.out];omega)] at h1
       exact h1
      go_wp2_with fail
      go_ret
      exact⟨bool_ret (by rw[HST.out];rfl),HB.out⟩
 ·skip
  rcases hd:(dn==0) with _|_
  ·have hd2:(dn != 0)=true:=by simp only[bne,hd];rfl
   clear HIH HL HM HG HLA HLie
   go_enter Tryz.func79,Tryz.ntmps79
   go_wp2_with fail
   refine(CA _).mono ?_
   rintro x w' ⟨rfl,rfl⟩
   go_wp2_with fail
   go_ret
   exact⟨rfl,bal _⟩
  ·have hd2:(dn != 0)=false:=by simp only[bne,hd];rfl
   go_enter Tryz.func79,Tryz.ntmps79
   go_wp2_with fail
   refine(CA _).mono ?_
   rintro x w' ⟨rfl,rfl⟩
   go_wp2_with fail
   go_loopw [6] (fun i wr=>∃k:Nat,k≤0∧i=.int .i64 k∧Hid (shapes (l.take k)=true)∧wr.cell? ⟨w.heap.size,5,none⟩=some (.slice a 0 cap)∧w.heap.size<wr.heap.size∧Hid (Below w.heap.size w wr)) (fun i _=>0-(intOf i).toNat)
   case atStart=>exact⟨0,by omega,rfl,rfl,by simp,by simp,bal _⟩
   case round =>
    obtain⟨k,hk,rfl,HS,hbox,hsz,HB⟩:=hrel
    by_cases hlt:k<0
    ·exact absurd hlt (by omega)
    ·have HST:Hid (shapes l=true):=by
      have h1:=HS.out
      rw[List.take_of_length_le (by rw[←HL.out];omega)] at h1
      exact h1
     go_wp2_with fail
     go_ret
     exact⟨bool_ret (by rw[HST.out];rfl),HB.out⟩
set_option maxRecDepth 100000 in
set_option maxHeartbeats 6400000 in
theorem shape_24(m:Nat)(ih:∀(e:Ex),e.size≤m→e.bulk≤1048576→∀w,e.lies w→Calls Tryz.prog 79 #[e.val] w fun x w'=>x=.returned (.bool e.shape)∧Below w.heap.size w w')
  (n:Nat)(pl it dn:Int)(nm:ByteArray)(a:Option Addr)(cap:Nat)(l:List Ex)(hl:n=l.length)(hm:sizes l≤m)(hg:nm.size+bulks l≤1048575)(hn:n=1)(w:World)(b o:Nat)(hla:l≠[]→a=some ⟨b,o,none⟩)(hlie:lieAt w b o l) :
  Calls Tryz.prog 79 #[.agg #[.int .u8 24,.int .i64 pl,.string nm,.int .i64 it,.int .i64 dn,.slice a n cap]] w fun x w'=>x=.returned (.bool (nm.toList.isEmpty&&decide (1≤it)&&(dn==0)&&shapes l))∧Below w.heap.size w w':=by
 have hnb:nm.size≤1048576:=by omega
 have HIH:Hid _:=ih
 have HL:=hid hl
 have HM:=hid hm
 have HG:=hid hg
 have HLA:Hid _:=hla
 have HLie:Hid _:=hlie
 have CA:=fun W=>args_calls 24 W
 rw[show argsOf 24=1 from by decide] at CA
 clear ih hl hm hg hla hlie
 subst hn
 rcases hnm:(nm.toList.isEmpty) with _|_
 ·clear HIH HL HM HG HLA HLie
  go_enter Tryz.func79,Tryz.ntmps79
  go_wp2_with fail
  refine(CA _).mono ?_
  rintro x w' ⟨rfl,rfl⟩
  go_wp2_with fail
  go_ret
  exact⟨rfl,bal _⟩
 rcases h0:(decide (1≤it)) with _|_
 ·clear HIH HL HM HG HLA HLie
  go_enter Tryz.func79,Tryz.ntmps79
  go_wp2_with fail
  refine(CA _).mono ?_
  rintro x w' ⟨rfl,rfl⟩
  go_wp2_with fail
  go_ret
  exact⟨rfl,bal _⟩
 ·skip
  rcases hd:(dn==0) with _|_
  ·have hd2:(dn != 0)=true:=by simp only[bne,hd];rfl
   clear HIH HL HM HG HLA HLie
   go_enter Tryz.func79,Tryz.ntmps79
   go_wp2_with fail
   refine(CA _).mono ?_
   rintro x w' ⟨rfl,rfl⟩
   go_wp2_with fail
   go_ret
   exact⟨rfl,bal _⟩
  ·have hd2:(dn != 0)=false:=by simp only[bne,hd];rfl
   go_enter Tryz.func79,Tryz.ntmps79
   go_wp2_with fail
   refine(CA _).mono ?_
   rintro x w' ⟨rfl,rfl⟩
   go_wp2_with fail
   go_loopw [6] (fun i wr=>∃k:Nat,k≤1∧i=.int .i64 k∧Hid (shapes (l.take k)=true)∧wr.cell? ⟨w.heap.size,5,none⟩=some (.slice a 1 cap)∧w.heap.size<wr.heap.size∧Hid (Below w.heap.size w wr)) (fun i _=>1-(intOf i).toNat)
   case atStart=>exact⟨0,by omega,rfl,rfl,by simp,by simp,bal _⟩
   case round =>
    obtain⟨k,hk,rfl,HS,hbox,hsz,HB⟩:=hrel
    by_cases hlt:k<1
    ·have hkl:k<l.length:=by rw[←HL.out];exact hlt
     obtain rfl:=HLA.out (by intro h;rw[h] at hkl;simp at hkl)
     obtain⟨hc,hli⟩:=lieAt_get l o k HLie.out hkl
     have hs3:=size_arg hkl
     have hb3:=bulk_arg hkl
     have hblk:b<w.heap.size:=by
      have h0:=hc 0 (by omega)
      cases hx:l[k]
      rw[hx] at h0
      exact World.block_lt_of_cell? w ⟨b,_,none⟩ h0
     have hcr:∀j,j<6→wr.cell? ⟨b,o+k*6+j,none⟩=l[k].cells[j]?:=fun j hj=>(HB.out.cell (p:=⟨b,o+k*6+j,none⟩) hblk).trans (hc j hj)
     have CC:=HIH.out l[k] (by have:=HM.out;omega) (by have:=HG.out;omega) wr (lies_below HB.out _ hli)
     have HF:=hid (shapes_false l k hkl)
     have HS2:Hid (l[k].shape=true→shapes (l.take (k+1))=true):=fun h=>by rw[shapes_at l k hkl,HS.out,h];rfl
     generalize l[k]=y at hcr CC HF HS2
     obtain⟨kd',pl',nm',it',dn',a',cap',l'⟩:=y
     have c0:wr.cell? ⟨b,o+k*6,none⟩=some (.int .u8 kd'):=hcr 0 (by omega)
     have c1:wr.cell? ⟨b,o+k*6+1,none⟩=some (.int .i64 pl'):=hcr 1 (by omega)
     have c2:wr.cell? ⟨b,o+k*6+2,none⟩=some (.string nm'):=hcr 2 (by omega)
     have c3:wr.cell? ⟨b,o+k*6+3,none⟩=some (.int .i64 it'):=hcr 3 (by omega)
     have c4:wr.cell? ⟨b,o+k*6+4,none⟩=some (.int .i64 dn'):=hcr 4 (by omega)
     have c5:wr.cell? ⟨b,o+k*6+5,none⟩=some (.slice a' l'.length cap'):=hcr 5 (by omega)
     simp only[Ex.val,Ex.cells,List.toArray] at CC
     generalize hsh:Ex.shape (.mk kd' pl' nm' it' dn' a' cap' l')=z at CC HF HS2
     clear hc hcr hli hs3 hb3 hblk hkl hsh
     rcases z with _|_
     ·have HFF:Hid (shapes l=false):=HF.out rfl
      go_wp2_with fail
      refine CC.mono ?_
      rintro x w2 ⟨rfl,hb2⟩
      have HB2:Hid (Below w.heap.size w w2):=HB.out.trans (hb2.mono (by omega))
      clear CC hb2
      go_wp2_with fail
      go_ret
      exact⟨bool_ret (by rw[HFF.out];simp),HB2.out⟩
     ·have HST:Hid (shapes (l.take (k+1))=true):=HS2.out rfl
      go_wp2_with fail
      refine CC.mono ?_
      rintro x w2 ⟨rfl,hb2⟩
      have hbox2:w2.cell? ⟨w.heap.size,5,none⟩=some (.slice (some ⟨b,o,none⟩) 1 cap):=(hb2.cell (p:=⟨w.heap.size,5,none⟩) hsz).trans hbox
      have hsz2:w.heap.size<w2.heap.size:=by have:=hb2.size;omega
      have HB2:Hid (Below w.heap.size w w2):=HB.out.trans (hb2.mono (by omega))
      clear CC hb2 c0 c1 c2 c3 c4 c5 hbox hsz HB
      go_wp2_with fail
      go_roundw
      case rel=>exact⟨k+1,by omega,by go_num,HST,hbox2,hsz2,HB2⟩
      case measure=>simp[intOf];omega
    ·have HST:Hid (shapes l=true):=by
      have h1:=HS.out
      rw[List.take_of_length_le (by rw[←HL.out];omega)] at h1
      exact h1
     go_wp2_with fail
     go_ret
     exact⟨bool_ret (by rw[HST.out];rfl),HB.out⟩
set_option maxRecDepth 100000 in
set_option maxHeartbeats 6400000 in
theorem shape_25(m:Nat)(ih:∀(e:Ex),e.size≤m→e.bulk≤1048576→∀w,e.lies w→Calls Tryz.prog 79 #[e.val] w fun x w'=>x=.returned (.bool e.shape)∧Below w.heap.size w w')
  (n:Nat)(pl it dn:Int)(nm:ByteArray)(a:Option Addr)(cap:Nat)(l:List Ex)(hl:n=l.length)(hm:sizes l≤m)(hg:nm.size+bulks l≤1048575)(hn:n=1)(w:World)(b o:Nat)(hla:l≠[]→a=some ⟨b,o,none⟩)(hlie:lieAt w b o l) :
  Calls Tryz.prog 79 #[.agg #[.int .u8 25,.int .i64 pl,.string nm,.int .i64 it,.int .i64 dn,.slice a n cap]] w fun x w'=>x=.returned (.bool (nm.toList.isEmpty&&decide (1≤it)&&(dn==0)&&shapes l))∧Below w.heap.size w w':=by
 have hnb:nm.size≤1048576:=by omega
 have HIH:Hid _:=ih
 have HL:=hid hl
 have HM:=hid hm
 have HG:=hid hg
 have HLA:Hid _:=hla
 have HLie:Hid _:=hlie
 have CA:=fun W=>args_calls 25 W
 rw[show argsOf 25=1 from by decide] at CA
 clear ih hl hm hg hla hlie
 subst hn
 rcases hnm:(nm.toList.isEmpty) with _|_
 ·clear HIH HL HM HG HLA HLie
  go_enter Tryz.func79,Tryz.ntmps79
  go_wp2_with fail
  refine(CA _).mono ?_
  rintro x w' ⟨rfl,rfl⟩
  go_wp2_with fail
  go_ret
  exact⟨rfl,bal _⟩
 rcases h0:(decide (1≤it)) with _|_
 ·clear HIH HL HM HG HLA HLie
  go_enter Tryz.func79,Tryz.ntmps79
  go_wp2_with fail
  refine(CA _).mono ?_
  rintro x w' ⟨rfl,rfl⟩
  go_wp2_with fail
  go_ret
  exact⟨rfl,bal _⟩
 ·skip
  rcases hd:(dn==0) with _|_
  ·have hd2:(dn != 0)=true:=by simp only[bne,hd];rfl
   clear HIH HL HM HG HLA HLie
   go_enter Tryz.func79,Tryz.ntmps79
   go_wp2_with fail
   refine(CA _).mono ?_
   rintro x w' ⟨rfl,rfl⟩
   go_wp2_with fail
   go_ret
   exact⟨rfl,bal _⟩
  ·have hd2:(dn != 0)=false:=by simp only[bne,hd];rfl
   go_enter Tryz.func79,Tryz.ntmps79
   go_wp2_with fail
   refine(CA _).mono ?_
   rintro x w' ⟨rfl,rfl⟩
   go_wp2_with fail
   go_loopw [6] (fun i wr=>∃k:Nat,k≤1∧i=.int .i64 k∧Hid (shapes (l.take k)=true)∧wr.cell? ⟨w.heap.size,5,none⟩=some (.slice a 1 cap)∧w.heap.size<wr.heap.size∧Hid (Below w.heap.size w wr)) (fun i _=>1-(intOf i).toNat)
   case atStart=>exact⟨0,by omega,rfl,rfl,by simp,by simp,bal _⟩
   case round =>
    obtain⟨k,hk,rfl,HS,hbox,hsz,HB⟩:=hrel
    by_cases hlt:k<1
    ·have hkl:k<l.length:=by rw[←HL.out];exact hlt
     obtain rfl:=HLA.out (by intro h;rw[h] at hkl;simp at hkl)
     obtain⟨hc,hli⟩:=lieAt_get l o k HLie.out hkl
     have hs3:=size_arg hkl
     have hb3:=bulk_arg hkl
     have hblk:b<w.heap.size:=by
      have h0:=hc 0 (by omega)
      cases hx:l[k]
      rw[hx] at h0
      exact World.block_lt_of_cell? w ⟨b,_,none⟩ h0
     have hcr:∀j,j<6→wr.cell? ⟨b,o+k*6+j,none⟩=l[k].cells[j]?:=fun j hj=>(HB.out.cell (p:=⟨b,o+k*6+j,none⟩) hblk).trans (hc j hj)
     have CC:=HIH.out l[k] (by have:=HM.out;omega) (by have:=HG.out;omega) wr (lies_below HB.out _ hli)
     have HF:=hid (shapes_false l k hkl)
     have HS2:Hid (l[k].shape=true→shapes (l.take (k+1))=true):=fun h=>by rw[shapes_at l k hkl,HS.out,h];rfl
     generalize l[k]=y at hcr CC HF HS2
     obtain⟨kd',pl',nm',it',dn',a',cap',l'⟩:=y
     have c0:wr.cell? ⟨b,o+k*6,none⟩=some (.int .u8 kd'):=hcr 0 (by omega)
     have c1:wr.cell? ⟨b,o+k*6+1,none⟩=some (.int .i64 pl'):=hcr 1 (by omega)
     have c2:wr.cell? ⟨b,o+k*6+2,none⟩=some (.string nm'):=hcr 2 (by omega)
     have c3:wr.cell? ⟨b,o+k*6+3,none⟩=some (.int .i64 it'):=hcr 3 (by omega)
     have c4:wr.cell? ⟨b,o+k*6+4,none⟩=some (.int .i64 dn'):=hcr 4 (by omega)
     have c5:wr.cell? ⟨b,o+k*6+5,none⟩=some (.slice a' l'.length cap'):=hcr 5 (by omega)
     simp only[Ex.val,Ex.cells,List.toArray] at CC
     generalize hsh:Ex.shape (.mk kd' pl' nm' it' dn' a' cap' l')=z at CC HF HS2
     clear hc hcr hli hs3 hb3 hblk hkl hsh
     rcases z with _|_
     ·have HFF:Hid (shapes l=false):=HF.out rfl
      go_wp2_with fail
      refine CC.mono ?_
      rintro x w2 ⟨rfl,hb2⟩
      have HB2:Hid (Below w.heap.size w w2):=HB.out.trans (hb2.mono (by omega))
      clear CC hb2
      go_wp2_with fail
      go_ret
      exact⟨bool_ret (by rw[HFF.out];simp),HB2.out⟩
     ·have HST:Hid (shapes (l.take (k+1))=true):=HS2.out rfl
      go_wp2_with fail
      refine CC.mono ?_
      rintro x w2 ⟨rfl,hb2⟩
      have hbox2:w2.cell? ⟨w.heap.size,5,none⟩=some (.slice (some ⟨b,o,none⟩) 1 cap):=(hb2.cell (p:=⟨w.heap.size,5,none⟩) hsz).trans hbox
      have hsz2:w.heap.size<w2.heap.size:=by have:=hb2.size;omega
      have HB2:Hid (Below w.heap.size w w2):=HB.out.trans (hb2.mono (by omega))
      clear CC hb2 c0 c1 c2 c3 c4 c5 hbox hsz HB
      go_wp2_with fail
      go_roundw
      case rel=>exact⟨k+1,by omega,by go_num,HST,hbox2,hsz2,HB2⟩
      case measure=>simp[intOf];omega
    ·have HST:Hid (shapes l=true):=by
      have h1:=HS.out
      rw[List.take_of_length_le (by rw[←HL.out];omega)] at h1
      exact h1
     go_wp2_with fail
     go_ret
     exact⟨bool_ret (by rw[HST.out];rfl),HB.out⟩
set_option maxRecDepth 100000 in
set_option maxHeartbeats 6400000 in
theorem shape_0(m:Nat)(ih:∀(e:Ex),e.size≤m→e.bulk≤1048576→∀w,e.lies w→Calls Tryz.prog 79 #[e.val] w fun x w'=>x=.returned (.bool e.shape)∧Below w.heap.size w w')
  (n:Nat)(kd:Int)(hcls:Cls kd false false false false false false false)(hA:argsOf kd=(n:Int))(pl it dn:Int)(nm:ByteArray)(a:Option Addr)(cap:Nat)(l:List Ex)(hl:n=l.length)(hm:sizes l≤m)(hg:nm.size+bulks l≤1048575)(hn3:n≤3)(w:World)(b o:Nat)(hla:l≠[]→a=some ⟨b,o,none⟩)(hlie:lieAt w b o l) :
  Calls Tryz.prog 79 #[.agg #[.int .u8 kd,.int .i64 pl,.string nm,.int .i64 it,.int .i64 dn,.slice a n cap]] w fun x w'=>x=.returned (.bool (nm.toList.isEmpty&&(it==0)&&(dn==0)&&shapes l))∧Below w.heap.size w w':=by
 have hnb:nm.size≤1048576:=by omega
 have HIH:Hid _:=ih
 have HL:=hid hl
 have HM:=hid hm
 have HG:=hid hg
 have HLA:Hid _:=hla
 have HLie:Hid _:=hlie
 have CA:=fun W=>args_calls kd W
 rw[hA] at CA
 obtain⟨f1,f4,f2,f26,f3,f24,f25⟩:=hcls
 have f27:(kd != 26)=true:=by simp only[bne,f26];rfl
 have q2:((n:Int)==-2)=false:=beq_false_of_ne (by omega)
 have q1:((n:Int)==-1)=false:=beq_false_of_ne (by omega)
 clear ih hl hm hg hla hlie hA
 rcases hnm:(nm.toList.isEmpty) with _|_
 ·clear HIH HL HM HG HLA HLie
  go_enter Tryz.func79,Tryz.ntmps79
  go_wp2_with fail
  refine(CA _).mono ?_
  rintro x w' ⟨rfl,rfl⟩
  go_wp2_with fail
  go_ret
  exact⟨rfl,bal _⟩
 rcases h0:((it==0)) with _|_
 ·clear HIH HL HM HG HLA HLie
  go_enter Tryz.func79,Tryz.ntmps79
  go_wp2_with fail
  refine(CA _).mono ?_
  rintro x w' ⟨rfl,rfl⟩
  go_wp2_with fail
  go_ret
  exact⟨rfl,bal _⟩
 ·skip
  rcases hd:(dn==0) with _|_
  ·have hd2:(dn != 0)=true:=by simp only[bne,hd];rfl
   clear HIH HL HM HG HLA HLie
   go_enter Tryz.func79,Tryz.ntmps79
   go_wp2_with fail
   refine(CA _).mono ?_
   rintro x w' ⟨rfl,rfl⟩
   go_wp2_with fail
   go_ret
   exact⟨rfl,bal _⟩
  ·have hd2:(dn != 0)=false:=by simp only[bne,hd];rfl
   go_enter Tryz.func79,Tryz.ntmps79
   go_wp2_with fail
   refine(CA _).mono ?_
   rintro x w' ⟨rfl,rfl⟩
   go_wp2_with fail
   go_loopw [6] (fun i wr=>∃k:Nat,k≤n∧i=.int .i64 k∧Hid (shapes (l.take k)=true)∧wr.cell? ⟨w.heap.size,5,none⟩=some (.slice a n cap)∧w.heap.size<wr.heap.size∧Hid (Below w.heap.size w wr)) (fun i _=>n-(intOf i).toNat)
   case atStart=>exact⟨0,by omega,rfl,rfl,by simp,by simp,bal _⟩
   case round =>
    obtain⟨k,hk,rfl,HS,hbox,hsz,HB⟩:=hrel
    by_cases hlt:k<n
    ·have hkl:k<l.length:=by rw[←HL.out];exact hlt
     obtain rfl:=HLA.out (by intro h;rw[h] at hkl;simp at hkl)
     obtain⟨hc,hli⟩:=lieAt_get l o k HLie.out hkl
     have hs3:=size_arg hkl
     have hb3:=bulk_arg hkl
     have hblk:b<w.heap.size:=by
      have h0:=hc 0 (by omega)
      cases hx:l[k]
      rw[hx] at h0
      exact World.block_lt_of_cell? w ⟨b,_,none⟩ h0
     have hcr:∀j,j<6→wr.cell? ⟨b,o+k*6+j,none⟩=l[k].cells[j]?:=fun j hj=>(HB.out.cell (p:=⟨b,o+k*6+j,none⟩) hblk).trans (hc j hj)
     have CC:=HIH.out l[k] (by have:=HM.out;omega) (by have:=HG.out;omega) wr (lies_below HB.out _ hli)
     have HF:=hid (shapes_false l k hkl)
     have HS2:Hid (l[k].shape=true→shapes (l.take (k+1))=true):=fun h=>by rw[shapes_at l k hkl,HS.out,h];rfl
     generalize l[k]=y at hcr CC HF HS2
     obtain⟨kd',pl',nm',it',dn',a',cap',l'⟩:=y
     have c0:wr.cell? ⟨b,o+k*6,none⟩=some (.int .u8 kd'):=hcr 0 (by omega)
     have c1:wr.cell? ⟨b,o+k*6+1,none⟩=some (.int .i64 pl'):=hcr 1 (by omega)
     have c2:wr.cell? ⟨b,o+k*6+2,none⟩=some (.string nm'):=hcr 2 (by omega)
     have c3:wr.cell? ⟨b,o+k*6+3,none⟩=some (.int .i64 it'):=hcr 3 (by omega)
     have c4:wr.cell? ⟨b,o+k*6+4,none⟩=some (.int .i64 dn'):=hcr 4 (by omega)
     have c5:wr.cell? ⟨b,o+k*6+5,none⟩=some (.slice a' l'.length cap'):=hcr 5 (by omega)
     simp only[Ex.val,Ex.cells,List.toArray] at CC
     generalize hsh:Ex.shape (.mk kd' pl' nm' it' dn' a' cap' l')=z at CC HF HS2
     clear hc hcr hli hs3 hb3 hblk hkl hsh
     rcases z with _|_
     ·have HFF:Hid (shapes l=false):=HF.out rfl
      go_wp2_with fail
      refine CC.mono ?_
      rintro x w2 ⟨rfl,hb2⟩
      have HB2:Hid (Below w.heap.size w w2):=HB.out.trans (hb2.mono (by omega))
      clear CC hb2
      go_wp2_with fail
      go_ret
      exact⟨bool_ret (by rw[HFF.out];simp),HB2.out⟩
     ·have HST:Hid (shapes (l.take (k+1))=true):=HS2.out rfl
      go_wp2_with fail
      refine CC.mono ?_
      rintro x w2 ⟨rfl,hb2⟩
      have hbox2:w2.cell? ⟨w.heap.size,5,none⟩=some (.slice (some ⟨b,o,none⟩) n cap):=(hb2.cell (p:=⟨w.heap.size,5,none⟩) hsz).trans hbox
      have hsz2:w.heap.size<w2.heap.size:=by have:=hb2.size;omega
      have HB2:Hid (Below w.heap.size w w2):=HB.out.trans (hb2.mono (by omega))
      clear CC hb2 c0 c1 c2 c3 c4 c5 hbox hsz HB
      go_wp2_with fail
      go_roundw
      case rel=>exact⟨k+1,by omega,by go_num,HST,hbox2,hsz2,HB2⟩
      case measure=>simp[intOf];omega
    ·have HST:Hid (shapes l=true):=by
      have h1:=HS.out
      rw[List.take_of_length_le (by rw[←HL.out];omega)] at h1
      exact h1
     go_wp2_with fail
     go_ret
     exact⟨bool_ret (by rw[HST.out];rfl),HB.out⟩
theorem shape_calls(m:Nat):∀(e:Ex),e.size≤m→e.bulk≤1048576→∀w,e.lies w→Calls Tryz.prog 79 #[e.val] w fun x w'=>x=.returned (.bool e.shape)∧Below w.heap.size w w':=by
 induction m with
 | zero=>intro e h;have:=size_pos e;omega
 | succ m ih =>
  rintro⟨kd,pl,nm,it,dn,a,cap,l⟩ hm hbig w ⟨b,o,hla,hlie⟩
  have hm1:sizes l≤m:=by simp only[Ex.size] at hm;omega
  have hg1:nm.size+bulks l≤1048575:=by simp only[Ex.bulk] at hbig;omega
  have hlen:l.length≤1048576:=by have h1:=len_sizes l;have h2:=sizes_bulk l;omega
  rcases hok:argsOkB kd l.length with _|_
  ·have:=shape_args kd pl it dn nm a l.length cap w hlen hok
   simp only[Ex.shape,hok,Bool.false_and]
   exact this
  ·simp only[Ex.shape,hok,Bool.true_and]
   have hok2:=hok
   simp only[argsOkB,decide_eq_true_eq] at hok2
   by_cases h1:kd=1
   ·subst h1
    have hA:argsOf 1=0:=by decide
    exact shape_1 m ih l.length pl it dn nm a cap l rfl hm1 hg1 (by omega) w b o hla hlie
   by_cases h4:kd=4
   ·subst h4
    have hA:argsOf 4=-1:=by decide
    exact shape_4 m ih l.length pl it dn nm a cap l rfl hm1 hg1 (by omega) (by omega) w b o hla hlie
   by_cases h2:kd=2
   ·subst h2
    have hA:argsOf 2=0:=by decide
    exact shape_2 m ih l.length pl it dn nm a cap l rfl hm1 hg1 (by omega) w b o hla hlie
   by_cases h26:kd=26
   ·subst h26
    have hA:argsOf 26=1:=by decide
    exact shape_26 m ih l.length pl it dn nm a cap l rfl hm1 hg1 (by omega) w b o hla hlie
   by_cases h3:kd=3
   ·subst h3
    have hA:argsOf 3=0:=by decide
    exact shape_3 m ih l.length pl it dn nm a cap l rfl hm1 hg1 (by omega) w b o hla hlie
   by_cases h24:kd=24
   ·subst h24
    have hA:argsOf 24=1:=by decide
    exact shape_24 m ih l.length pl it dn nm a cap l rfl hm1 hg1 (by omega) w b o hla hlie
   by_cases h25:kd=25
   ·subst h25
    have hA:argsOf 25=1:=by decide
    exact shape_25 m ih l.length pl it dn nm a cap l rfl hm1 hg1 (by omega) w b o hla hlie
   have hr:=argsOf_range kd
   have hne:argsOf kd≠-1:=by
    unfold argsOf
    rw[if_neg (show ¬(kd=1∨kd=2∨kd=3) by omega),if_neg h4]
    split
    ·omega
    ·split
     ·omega
     ·split<;>omega
   have e1:nameOkB kd nm=nm.toList.isEmpty:=by rw[nameOkB,if_neg (by omega)]
   have e2:intOkB kd it=(it==0):=by rw[intOkB,if_neg (by omega),if_neg h3,if_neg (by omega)]
   have e3:denOkB kd dn=(dn==0):=by rw[denOkB,if_neg h26]
   rw[e1,e2,e3]
   exact shape_0 m ih l.length kd ⟨beq_false_of_ne h1,beq_false_of_ne h4,beq_false_of_ne h2,beq_false_of_ne h26,beq_false_of_ne h3,beq_false_of_ne h24,beq_false_of_ne h25⟩ (by omega) pl it dn nm a cap l rfl hm1 hg1 (by omega) w b o hla hlie
end Go.Proofs.YthbgnpkgglbhjaaGreatDoor
