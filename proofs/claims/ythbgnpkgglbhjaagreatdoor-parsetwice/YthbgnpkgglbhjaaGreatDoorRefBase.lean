import Derived.Test.YthbgnpkgglbhjaaGreatDoorShowP
import Derived.Laws.IdiomStrings
import Derived.WalkKit
namespace Go.Proofs.YthbgnpkgglbhjaaGreatDoor
open Go.RowKit
theorem conv_byte(W:World)(c:UInt8)(v:Int)(hv:v=(c.toNat:Int)):(convert 166 9 (.slice (some ⟨W.heap.size,0,none⟩) 1 1)).run Tryz.prog (W.alloc (.cells #[.int .u8 v] 5))=.ok (.string ⟨#[c]⟩) (W.alloc (.cells #[.int .u8 v] 5)):=by
 have h:=run_convert_bytes_back (P:=Tryz.prog) (W.alloc (.cells #[.int .u8 v] 5)) 166 9 5 ⟨W.heap.size,0,none⟩ 1 [c] Tryz.underlying166 Tryz.underlying5 Tryz.underlying9 (fun j hj=>by
  obtain rfl:j=0:=by simpa using hj
  have e0:((⟨W.heap.size,0,none⟩:Addr).add 0)=⟨W.heap.size,0,none⟩:=rfl
  rw[e0,World.cell?_alloc_at _ _ _ _ rfl,hv]
  rfl)
 exact h
theorem dec_len:∀(k u:Nat),u<10 ^ (k+1)→(Lib.decDigits u).length≤k+1
 | 0,u,h=>by rw[Lib.decDigits,dif_pos (by omega)];simp
 | k+1,u,h=>by
  rw[Lib.decDigits]
  split
  ·simp
  ·have:=dec_len k (u / 10) (by rw[Nat.pow_succ] at h;omega)
   simp only[List.length_append,List.length_cons,List.length_nil]
   omega
set_option maxRecDepth 100000 in
set_option maxHeartbeats 3200000 in
theorem num_ref(n:Int)(h0:0≤n)(h1:n≤9223372036854775807)(w:World):Calls Tryz.prog 60 #[.int .i64 n] w fun e w'=>e=.returned (.string ⟨(Lib.itoa n).toArray⟩)∧Below w.heap.size w w':=by
 rw[itoa_dec h0]
 obtain⟨u,rfl⟩:∃u:Nat,n=u:=⟨n.toNat,by omega⟩
 simp only[Int.toNat_natCast]
 have HU:Hid ((Lib.decDigits u).length≤100):=by have:=dec_len 99 u (by omega);rw[Hid];omega
 go_enter Tryz.func60,Tryz.ntmps60
 go_wp2_with fail
 go_loopw [0,3] (fun x s wr=>∃(m:Nat)(d:List UInt8),m≤u∧x=.int .i64 m∧s=.string ⟨d.toArray⟩∧Hid (Lib.decDigits u=Lib.decDigits m++d)∧Hid (Below w.heap.size w wr)) (fun x _ _=>(intOf x).toNat)
 case atStart=>exact⟨u,[],Nat.le_refl _,rfl,rfl,by simp[Hid],Below.refl _ _⟩
 case round =>
  obtain⟨m,d,hm,rfl,rfl,HD,HB⟩:=hrel
  have hdl:d.length≤100:=by
   have h2:=HU.out
   rw[HD.out,List.length_append] at h2
   omega
  by_cases h9:9<m
  ·obtain⟨c,hc⟩:=nw (UInt8.ofNat (48+m % 10))
   have hcv:(48+(m:Int) % 10)=(c.toNat:Int):=by rw[hc];simp;omega
   have hconv:=conv_byte wr c (48+(m:Int) % 10) hcv
   obtain⟨d',hd'⟩:∃d',d'=c::d:=⟨_,rfl⟩
   have a1:∀W,(Op.stringOp .add ⟨#[c]⟩ ⟨d.toArray⟩).run Tryz.prog W=.ok (.string ⟨d'.toArray⟩) W:=fun W=>by
    rw[hd']
    exact add_text W [c] d (by simp only[lC,lN];omega)
   have HD2:Hid (Lib.decDigits u=Lib.decDigits (m / 10)++d'):=by
    rw[Hid,HD.out,hd',hc]
    conv=>lhs;rw[Lib.decDigits,dif_neg (by omega)]
    simp
   have HB2:Hid (Below w.heap.size w (wr.alloc (.cells #[.int .u8 (48+(m:Int) % 10)] 5))):=HB.out.alloc HB.out.size _
   clear hc hcv hd'
   go_wp2_with fail
   go_roundw
   case rel=>exact⟨m / 10,d',by omega,by first|rfl|go_num,rfl,HD2,HB2⟩
   case measure=>simp[intOf];omega
  ·obtain⟨c,hc⟩:=nw (UInt8.ofNat (48+m))
   have hcv:(48+(m:Int))=(c.toNat:Int):=by rw[hc];simp;omega
   have hconv:=conv_byte wr c (48+(m:Int)) hcv
   obtain⟨d',hd'⟩:∃d',d'=c::d:=⟨_,rfl⟩
   have a1:∀W,(Op.stringOp .add ⟨#[c]⟩ ⟨d.toArray⟩).run Tryz.prog W=.ok (.string ⟨d'.toArray⟩) W:=fun W=>by
    rw[hd']
    exact add_text W [c] d (by simp only[lC,lN];omega)
   have HD2:Hid (Lib.decDigits u=d'):=by
    rw[Hid,HD.out,hd',hc,Lib.decDigits,dif_pos (by omega)]
    simp
   have HB2:Hid (Below w.heap.size w (wr.alloc (.cells #[.int .u8 (48+(m:Int))] 5))):=HB.out.alloc HB.out.size _
   clear hc hcv hd'
   go_wp2_with fail
   go_ret
   exact⟨by rw[HD2.out];rfl,HB2.out⟩
end Go.Proofs.YthbgnpkgglbhjaaGreatDoor
namespace Go.Proofs.YthbgnpkgglbhjaaGreatDoor
open Go.RowKit
set_option maxRecDepth 100000 in
set_option maxHeartbeats 6400000 in
theorem strength_ref(kd:Int)(h0:1≤kd)(h1:kd≤26)(w:World):Calls Tryz.prog 59 #[.int .u8 kd] w fun e w'=>e=.returned (.int .i64 (strong kd))∧w'=w:=by
 have:kd=1∨kd=2∨kd=3∨kd=4∨kd=5∨kd=6∨kd=7∨kd=8∨kd=9∨kd=10∨kd=11∨kd=12∨kd=13∨kd=14∨kd=15∨kd=16∨kd=17∨kd=18∨kd=19∨kd=20∨kd=21∨kd=22∨kd=23∨kd=24∨kd=25∨kd=26:=by omega
 rcases this with rfl|rfl|rfl|rfl|rfl|rfl|rfl|rfl|rfl|rfl|rfl|rfl|rfl|rfl|rfl|rfl|rfl|rfl|rfl|rfl|rfl|rfl|rfl|rfl|rfl|rfl
 all_goals
  go_enter Tryz.func59,Tryz.ntmps59
  go_wp2
  go_ret
  exact⟨rfl,rfl⟩
def refSgn(k:Int):List UInt8:=if k=7 then [43] else if k=8 then [45] else if k=9 then [42] else if k=10 then [47] else if k=11 then [37] else if k=12 then [61] else if k=13 then [60,62] else if k=14 then [60] else if k=15 then [60,61] else if k=16 then [62] else if k=17 then [62,61] else if k=18 then [97,110,100] else [111,114]
theorem sign_sgn(k:Int)(h:7≤k)(h1:k≤19):signOf k=[32]++(refSgn k++[32]):=by
 have:k=7∨k=8∨k=9∨k=10∨k=11∨k=12∨k=13∨k=14∨k=15∨k=16∨k=17∨k=18∨k=19:=by omega
 rcases this with rfl|rfl|rfl|rfl|rfl|rfl|rfl|rfl|rfl|rfl|rfl|rfl|rfl<;>rfl
set_option maxRecDepth 100000 in
set_option maxHeartbeats 6400000 in
theorem sign_ref(kd:Int)(h0:7≤kd)(h1:kd≤19)(w:World):Calls Tryz.prog 62 #[.int .u8 kd] w fun e w'=>e=.returned (.string ⟨(refSgn kd).toArray⟩)∧Below w.heap.size w w':=by
 have:kd=7∨kd=8∨kd=9∨kd=10∨kd=11∨kd=12∨kd=13∨kd=14∨kd=15∨kd=16∨kd=17∨kd=18∨kd=19:=by omega
 rcases this with rfl|rfl|rfl|rfl|rfl|rfl|rfl|rfl|rfl|rfl|rfl|rfl|rfl
 all_goals
  go_enter Tryz.func62,Tryz.ntmps62
  go_wp2
  go_ret
  exact⟨rfl,bal _⟩
open Ex.size Ex.depth Ex.lies Ex.bulk Ex.good Ex.shape Ex.text
def RText(e:Ex):Prop:=∀w,e.lies w→Calls Tryz.prog 32 #[e.val] w fun x w'=>x=.returned (.string ⟨e.text.toArray⟩)∧Below w.heap.size w w'
def RAt(e:Ex)(n:Int):Prop:=∀w,e.lies w→Calls Tryz.prog 61 #[e.val,.int .i64 n] w fun x w'=>x=.returned (.string ⟨(par n (e.kd,e.text)).toArray⟩)∧Below w.heap.size w w'
structure TextIs(W0:World)(fn:Nat)(args:Array Value)(t:List UInt8):Prop where
 out:∀w',Hid (Below W0.heap.size W0 w')→Calls Tryz.prog fn args w' fun r w''=>r=.returned (.string ⟨t.toArray⟩)∧Below w'.heap.size w' w''
theorem strong_cmp(kd:Int)(h:12≤kd)(h1:kd≤17):strong kd=5:=by unfold strong;rw[if_neg (by omega),if_neg (by omega),if_neg (by omega),if_neg (by omega),if_neg (by omega),if_pos (by omega)]
theorem wrap_small{z:Int}(h0:0≤z)(h1:z≤8):IntKind.i64.wrap (z+1)=z+1:=by
 have:z=0∨z=1∨z=2∨z=3∨z=4∨z=5∨z=6∨z=7∨z=8:=by omega
 rcases this with rfl|rfl|rfl|rfl|rfl|rfl|rfl|rfl|rfl<;>rfl
theorem keep_cell{W:World}{a o:Nat}{v:Value}(c:W.cell? ⟨a,o,none⟩=some v):∀w',Hid (Below W.heap.size W w')→w'.cell? ⟨a,o,none⟩=some v:=fun _ h=>(h.out.cell (p:=⟨a,o,none⟩) (World.block_lt_of_cell? W ⟨a,o,none⟩ c)).trans c
theorem grow_on{W w' w'':World}(h:Hid (Below W.heap.size W w'))(k:Below w'.heap.size w' w''):Hid (Below W.heap.size W w''):=h.out.trans (k.mono h.out.size)
set_option maxRecDepth 100000 in
set_option maxHeartbeats 3200000 in
theorem at_ref(e:Ex)(hp:RText e)(h0:1≤e.kd)(h1:e.kd≤26)(hlen:e.text.length≤1000000000)(n:Int)(hn:0≤n∧n≤100):RAt e n:=by
 intro w hl
 have hb0:Below w.heap.size w (w.alloc (.cells e.cells.toArray 27)):=bal _
 have CT:=hp (w.alloc (.cells e.cells.toArray 27)) (lies_below hb0 e hl)
 have CS:∀w,Calls Tryz.prog 59 #[.int .u8 e.kd] w fun x w'=>x=.returned (.int .i64 (strong e.kd))∧w'=w:=fun w=>strength_ref e.kd h0 h1 w
 have hz:=strong_pos e.kd
 have HPar:Hid (par n (e.kd,e.text)=if strong e.kd<n then 40::(e.text++[41]) else e.text):=rfl
 have HB0:Hid _:=hb0
 generalize par n (e.kd,e.text)=pt at *
 generalize e.text=TT at *
 obtain⟨kd,pl,nm,it,dn,a,cap,l⟩:=e
 simp only at CS hz HPar h0 h1
 generalize strong kd=z at *
 obtain⟨m,hm⟩:=nw (l.length)
 simp only[Ex.val,Ex.cells,List.toArray,←hm] at *
 clear hp hl hb0 hm h0 h1
 obtain⟨hn0,hn1⟩:=hn
 by_cases hlt:z<n
 ·obtain⟨T1,hT1⟩:=nw ([40]++TT)
  have l1:T1.length=TT.length+1:=by rw[hT1];simp
  have a1:∀W,(Op.stringOp .add ⟨#[40]⟩ ⟨TT.toArray⟩).run Tryz.prog W=.ok (.string ⟨T1.toArray⟩) W:=fun W=>by rw[hT1];exact add_text W [40] TT (by simp only[lC,lN];omega)
  have a2:∀W,(Op.stringOp .add ⟨T1.toArray⟩ ⟨#[41]⟩).run Tryz.prog W=.ok (.string ⟨pt.toArray⟩) W:=fun W=>by
   rw[HPar.out,if_pos hlt]
   have:=add_text W T1 [41] (by simp only[lC,lN];omega)
   rw[hT1] at this ⊢
   exact this
  clear HPar hT1 l1
  go_enter Tryz.func61,Tryz.ntmps61
  go_wp2_with fail
  refine(CS _).mono ?_
  rintro x w1 ⟨rfl,rfl⟩
  clear CS
  go_wp2_with fail
  refine CT.mono ?_
  rintro x w2 ⟨rfl,hb2⟩
  have HB2:=hid (HB0.out.trans (hb2.mono HB0.out.size))
  clear CT hb2
  go_wp2_with fail
  go_ret
  exact⟨rfl,HB2.out⟩
 ·have HPt:Hid (pt=TT):=by rw[Hid,HPar.out,if_neg hlt]
  clear HPar
  go_enter Tryz.func61,Tryz.ntmps61
  go_wp2_with fail
  refine(CS _).mono ?_
  rintro x w1 ⟨rfl,rfl⟩
  clear CS
  go_wp2_with fail
  refine CT.mono ?_
  rintro x w2 ⟨rfl,hb2⟩
  have HB2:=hid (HB0.out.trans (hb2.mono HB0.out.size))
  clear CT hb2
  go_wp2_with fail
  go_ret
  exact⟨by rw[HPt.out];rfl,HB2.out⟩
end Go.Proofs.YthbgnpkgglbhjaaGreatDoor
