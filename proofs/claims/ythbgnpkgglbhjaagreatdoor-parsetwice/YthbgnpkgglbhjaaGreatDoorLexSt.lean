import Derived.Lib.ParseIntB
import Derived.Test.YthbgnpkgglbhjaaGreatDoorLexWords
import Derived.Test.YthbgnpkgglbhjaaGreatDoorShelf
import Derived.Lib.ConvBytes
import Derived.Lib.UnsafeStr
import Derived.Test.YthbgnpkgglbhjaaGreatDoorLexStepPlain
import Derived.Deep.QuietTactic
import Derived.BigQuiet
namespace Go.Proofs.YthbgnpkgglbhjaaGreatDoor
theorem numTo_up(s:ByteArray)(k:Nat):∀d,numTo s k≤numTo s (k+d)
 | 0=>Nat.le_refl _
 | d+1=>by
  have h:=numTo_up s k d
  have e:numTo s (k+(d+1))=10*numTo s (k+d)+(byteAt s (k+d)-48).toNat:=rfl
  omega
theorem numTo_mono(s:ByteArray){k n:Nat}(h:k≤n):numTo s k≤numTo s n:=by
 have:=numTo_up s k (n-k)
 rw[show k+(n-k)=n by omega] at this
 exact this
theorem byte_toNat{s:ByteArray}{k:Nat}(h:k<s.size)(hd:digitB (byteAt s k)=true):48≤s[k].toNat∧s[k].toNat≤57∧(byteAt s k-48).toNat=s[k].toNat-48:=by
 simp only[digitB,decide_eq_true_eq] at hd
 rw[byteAt_lt h] at hd ⊢
 omega
theorem drop_cons{s:ByteArray}{k:Nat}(h:k<s.size):s.data.toList.drop k=s[k]::s.data.toList.drop (k+1):=by
 have h':k<s.data.toList.length:=by simpa using h
 rw[List.drop_eq_getElem_cons h']
 rfl
theorem parseU(s:ByteArray)(hd:Digits s)(k:Nat)(hk:k≤s.size)(hb:numTo s k≤18446744073709551615):Lib.parseUintM 18446744073709551615 (numTo s k) (s.data.toList.drop k)=if numTo s s.size≤18446744073709551615 then .ok (numTo s s.size) else .range:=by
 induction hm:s.size-k using Nat.strongRecOn generalizing k with
 | ind m ih =>
  by_cases h:k<s.size
  ·obtain⟨h1,h2,h3⟩:=byte_toNat h (hd k h)
   have e:numTo s (k+1)=numTo s k*10+(s[k].toNat-48):=by
    show 10*numTo s k+(byteAt s k-48).toNat=_
    omega
   have hmono:=numTo_mono s (show k+1≤s.size by omega)
   rw[drop_cons h,Lib.parseUintM,if_pos ⟨h1,h2⟩]
   by_cases h4:1844674407370955162≤numTo s k
   ·rw[if_pos h4,if_neg (by omega)]
   ·rw[if_neg h4]
    by_cases h5:18446744073709551615<numTo s k*10+(s[k].toNat-48)
    ·rw[if_pos h5,if_neg (by omega)]
    ·rw[if_neg h5,←e]
     exact ih (s.size-(k+1)) (by omega) (k+1) (by omega) (by omega) rfl
  ·obtain rfl:k=s.size:=by omega
   rw[List.drop_eq_nil_of_le (by simp),Lib.parseUintM,if_pos hb]
theorem parseI_ok(c:UInt8)(r:List UInt8)(h1:¬c.toNat=43)(h2:¬c.toNat=45)(u:Nat)(h:Lib.parseUintB 64 (c::r)=.ok u):Lib.parseIntB 64 (c::r)=if 9223372036854775808≤u then .range else .ok ((u:Nat):Int):=by
 simp only[Lib.parseIntB,h1,h2,or_self,if_false,h,not_false_eq_true,true_and,false_and]
theorem parseI_range(c:UInt8)(r:List UInt8)(h1:¬c.toNat=43)(h2:¬c.toNat=45)(h:Lib.parseUintB 64 (c::r)=.range):Lib.parseIntB 64 (c::r)=.range:=by
 simp only[Lib.parseIntB,h1,h2,or_self,if_false,h]
theorem parseI(s:ByteArray)(hd:Digits s)(h0:0<s.size):Lib.parseIntB 64 s.data.toList=if numTo s s.size≤9223372036854775807 then .ok ((numTo s s.size:Nat):Int) else .range:=by
 have hu:=parseU s hd 0 (Nat.zero_le _) (Nat.zero_le _)
 obtain⟨h1,h2,-⟩:=byte_toNat h0 (hd 0 h0)
 have hc:=drop_cons h0
 rw[List.drop_zero] at hu hc
 have hx:Lib.parseUintB 64 s.data.toList=if numTo s s.size≤18446744073709551615 then .ok (numTo s s.size) else .range:=by
  unfold Lib.parseUintB
  rw[if_neg (by rw[hc];simp)]
  exact hu
 generalize s.data.toList.drop 1=r at hc
 rw[hc] at hx ⊢
 by_cases h3:numTo s s.size≤18446744073709551615
 ·rw[if_pos h3] at hx
  rw[parseI_ok _ _ (by omega) (by omega) _ hx]
  by_cases h4:numTo s s.size≤9223372036854775807
  ·rw[if_pos h4,if_neg (by omega)]
  ·rw[if_neg h4,if_pos (by omega)]
 ·rw[if_neg h3] at hx
  rw[parseI_range _ _ (by omega) (by omega) hx,if_neg (by omega)]
theorem numTo_pow{s:ByteArray}(hd:Digits s)(h:byteAt s 0≠48):∀k,k+1≤s.size→10 ^ k≤numTo s (k+1)
 | 0,hk=>by
  have h1:=hd 0 (by omega)
  simp only[digitB,decide_eq_true_eq] at h1
  show 1≤10*0+(byteAt s 0-48).toNat
  omega
 | k+1,hk=>by
  have h1:=numTo_pow hd h k (by omega)
  have e:numTo s (k+1+1)=10*numTo s (k+1)+(byteAt s (k+1)-48).toNat:=rfl
  rw[Nat.pow_succ]
  omega
theorem numOk_iff{s:ByteArray}(hd:Digits s):numOk s=decide (numTo s s.size≤9223372036854775807∧¬(1<s.size∧byteAt s 0=48)):=by
 unfold numOk
 rw[decide_eq_decide]
 constructor
 ·rintro⟨-,h1,h2⟩
  exact⟨h2,h1⟩
 ·rintro⟨h2,h1⟩
  refine⟨?_,h1,h2⟩
  rcases Nat.lt_or_ge 19 s.size with h3|h3
  ·exfalso
   have h4:=numTo_pow hd (fun e=>h1 ⟨by omega,e⟩) 19 (by omega)
   have h5:=numTo_mono s (show 20≤s.size by omega)
   rw[show 19+1=20 from rfl] at h4
   have h6:(10 ^ 19:Nat)=10000000000000000000:=by decide
   omega
  ·exact h3
open Go.RowKit Go.Shelf
def RangeVar(w:World):Prop:=∃ev,w.cell? ⟨2,0,none⟩=some ev∧(ev=.nilIface∨∃te pe,ev=.iface te pe)
theorem RangeVar.below{w w':World}(h:RangeVar w)(hb:Below w.heap.size w w'):RangeVar w':=by
 obtain⟨ev,h1,h2⟩:=h
 refine⟨ev,?_,h2⟩
 rw[hb.cell (p:=⟨2,0,none⟩)]
 ·exact h1
 ·rcases Nat.lt_or_ge 2 w.heap.size with hlt|hge
  ·exact hlt
  ·simp[World.cell?,Array.getElem?_eq_none hge] at h1
theorem below_bytes(w:World)(e:TypeId)(s:ByteArray):Below w.heap.size w (Lib.bytesWorld w e s) :=
 Lib.below_freeze ((Below.drew (Below.refl _ w)).alloc (Nat.le_refl _) _) (p:=⟨w.heap.size,(Lib.bytesCells w e s).size,none⟩) (Nat.le_refl _) 1
theorem parse_ok(s:ByteArray)(hs:s.size≤1048576)(v:Int)(h:Lib.parseIntB 64 s.data.toList=.ok v)(w:World) :
  Calls Tryz.prog 118 #[.string s,.int .i64 10,.int .i64 64] w fun e w'=>e=.returned (.tuple #[.int .i64 v,.nilIface])∧Below w.heap.size w w' :=
 Calls.mono (Any.strconv_ParseInt_10_at64_ok Tryz.laysPI s (by omega) v h w) fun e w' hh=>⟨hh.1,by
  rcases hh.2 with rfl|⟨t,rfl⟩
  ·exact Below.refl _ _
  ·exact below_bytes _ _ _⟩
theorem parse_range(s:ByteArray)(hs:s.size≤1048576)(h:Lib.parseIntB 64 s.data.toList=.range)(w:World)(hv:RangeVar w) :
  Calls Tryz.prog 118 #[.string s,.int .i64 10,.int .i64 64] w fun e w'=>∃n N,e=.returned (.tuple #[.int .i64 n,.iface 200 (.pointer (some ⟨N,0,none⟩))])∧Below w.heap.size w w':=by
 obtain⟨ev,h1,h2⟩:=hv
 exact Calls.mono (Any.strconv_ParseInt_10_at64_range Tryz.laysPI s (by omega) h ev w h1 h2) fun e w' hh=>by
  obtain⟨N,e1,-,-,hb⟩:=hh
  exact⟨_,N,e1,hb⟩
def boxes(w:World)(k:Int)(t:ByteArray):World:=(w.alloc (.cells #[.int .u8 0,.string ⟨#[]⟩,.int .i64 0,.int .i64 0] 72)).alloc (.cells #[.int .u8 k,.string t,.int .i64 0,.int .i64 0] 72)
theorem boxes_below(w:World)(k:Int)(t:ByteArray):Below w.heap.size w (boxes w k t):=(bal _).alloc (by simp) _
set_option maxHeartbeats 1600000 in
theorem read_none(v:Value)(t:ByteArray)(w:World):Calls Tryz.prog 86 #[v,.int .u8 254,.string t] w fun e w'=>e=.returned (.tuple #[.agg #[.int .u8 0,.string ⟨#[]⟩,.int .i64 0,.int .i64 0],.int .i64 30])∧Below w.heap.size w w':=by
 have HB:Hid _:=boxes_below w 254 t
 go_enter Tryz.func86,Tryz.ntmps86
 go_wp2
 refine bodyPost_ret (by simp[results,Tryz.results86,go_sem, *];try rfl) rfl ?_
 exact⟨rfl,HB.out⟩
set_option maxHeartbeats 1600000 in
theorem read_sign(v:Value)(t:ByteArray)(w:World):Calls Tryz.prog 86 #[v,.int .u8 4,.string t] w fun e w'=>e=.returned (.tuple #[.agg #[.int .u8 4,.string t,.int .i64 0,.int .i64 0],.int .i64 0])∧Below w.heap.size w w':=by
 go_enter Tryz.func86,Tryz.ntmps86
 go_wp2
 refine bodyPost_ret (by simp[results,Tryz.results86,go_sem, *];try rfl) rfl ?_
 exact⟨rfl,(bal _).alloc (by simp) _⟩
set_option maxHeartbeats 1600000 in
set_option maxRecDepth 100000 in
theorem read_name(b:Nat)(t:ByteArray)(w:World)(hw:HasWords w b)(hs:t.size≤1048576):Calls Tryz.prog 86 #[.map (some b),.int .u8 1,.string t] w fun e w'=>e=.returned (if t.size≤32 then .tuple #[.agg #[.int .u8 (if wordB t=true then 3 else 1),.string t,.int .i64 0,.int .i64 0],.int .i64 0] else .tuple #[.agg #[.int .u8 0,.string ⟨#[]⟩,.int .i64 0,.int .i64 0],.int .i64 32])∧Below w.heap.size w w':=by
 have hB:=boxes_below w 1 t
 obtain⟨c,hl,hc⟩:=(hw.below hB).look t (by unfold maxLen;omega)
 have HB:Hid _:=hB
 have HC:Hid _:=hc
 clear hB hc hw
 unfold boxes at hl
 by_cases h32:t.size≤32
 ·rw[if_pos h32]
  have hq:decide ((32:Int)<(t.size:Int))=false:=by simp;omega
  clear h32
  rcases hwd:wordB t with _|_
  ·rw[hwd] at hl
   go_enter Tryz.func86,Tryz.ntmps86
   go_wp2
   refine bodyPost_ret (by simp[results,Tryz.results86,go_sem, *];try rfl) rfl ?_
   exact⟨rfl,(bal _).alloc (by simp) _⟩
  ·obtain rfl:=HC.out hwd
   rw[hwd] at hl
   go_enter Tryz.func86,Tryz.ntmps86
   go_wp2
   refine bodyPost_ret (by simp[results,Tryz.results86,go_sem, *];try rfl) rfl ?_
   exact⟨rfl,(bal _).alloc (by simp) _⟩
 ·rw[if_neg h32]
  have hq:decide ((32:Int)<(t.size:Int))=true:=by simp;omega
  clear h32 hl
  go_enter Tryz.func86,Tryz.ntmps86
  go_wp2
  refine bodyPost_ret (by simp[results,Tryz.results86,go_sem, *];try rfl) rfl ?_
  exact⟨rfl,HB.out⟩
theorem boxes_size(w:World)(k:Int)(t:ByteArray):(boxes w k t).heap.size=w.heap.size+2:=by simp[boxes]
theorem boxes_after{w w1:World}{k:Int}{t:ByteArray}(hb:Below (boxes w k t).heap.size (boxes w k t) w1):w1.cell? ⟨w.heap.size,0,none⟩=some (.int .u8 0)∧w1.cell? ⟨w.heap.size,1,none⟩=some (.string ⟨#[]⟩)∧w1.cell? ⟨w.heap.size,2,none⟩=some (.int .i64 0)∧w1.cell? ⟨w.heap.size,3,none⟩=some (.int .i64 0)∧w1.frozen? ⟨w.heap.size,0,none⟩=false∧w1.frozen? ⟨w.heap.size,1,none⟩=false∧w1.frozen? ⟨w.heap.size,2,none⟩=false∧w1.frozen? ⟨w.heap.size,3,none⟩=false∧w1.cell? ⟨w.heap.size+1,0,none⟩=some (.int .u8 k)∧w1.cell? ⟨w.heap.size+1,1,none⟩=some (.string t)∧w1.cell? ⟨w.heap.size+1,2,none⟩=some (.int .i64 0)∧w1.cell? ⟨w.heap.size+1,3,none⟩=some (.int .i64 0)∧w1.frozen? ⟨w.heap.size+1,0,none⟩=false∧w1.frozen? ⟨w.heap.size+1,1,none⟩=false∧w1.frozen? ⟨w.heap.size+1,2,none⟩=false∧w1.frozen? ⟨w.heap.size+1,3,none⟩=false :=
 ⟨(hb.cell (p:=⟨w.heap.size,0,none⟩) (by rw[boxes_size];show w.heap.size<w.heap.size+2;omega)).trans (by simp[boxes]),(hb.cell (p:=⟨w.heap.size,1,none⟩) (by rw[boxes_size];show w.heap.size<w.heap.size+2;omega)).trans (by simp[boxes]),(hb.cell (p:=⟨w.heap.size,2,none⟩) (by rw[boxes_size];show w.heap.size<w.heap.size+2;omega)).trans (by simp[boxes]),(hb.cell (p:=⟨w.heap.size,3,none⟩) (by rw[boxes_size];show w.heap.size<w.heap.size+2;omega)).trans (by simp[boxes]),(hb.frozen (p:=⟨w.heap.size,0,none⟩) (by rw[boxes_size];show w.heap.size<w.heap.size+2;omega)).trans (by simp[boxes]),(hb.frozen (p:=⟨w.heap.size,1,none⟩) (by rw[boxes_size];show w.heap.size<w.heap.size+2;omega)).trans (by simp[boxes]),(hb.frozen (p:=⟨w.heap.size,2,none⟩) (by rw[boxes_size];show w.heap.size<w.heap.size+2;omega)).trans (by simp[boxes]),(hb.frozen (p:=⟨w.heap.size,3,none⟩) (by rw[boxes_size];show w.heap.size<w.heap.size+2;omega)).trans (by simp[boxes]),(hb.cell (p:=⟨w.heap.size+1,0,none⟩) (by rw[boxes_size];show w.heap.size+1<w.heap.size+2;omega)).trans (by simp[boxes]),(hb.cell (p:=⟨w.heap.size+1,1,none⟩) (by rw[boxes_size];show w.heap.size+1<w.heap.size+2;omega)).trans (by simp[boxes]),(hb.cell (p:=⟨w.heap.size+1,2,none⟩) (by rw[boxes_size];show w.heap.size+1<w.heap.size+2;omega)).trans (by simp[boxes]),(hb.cell (p:=⟨w.heap.size+1,3,none⟩) (by rw[boxes_size];show w.heap.size+1<w.heap.size+2;omega)).trans (by simp[boxes]),(hb.frozen (p:=⟨w.heap.size+1,0,none⟩) (by rw[boxes_size];show w.heap.size+1<w.heap.size+2;omega)).trans (by simp[boxes]),(hb.frozen (p:=⟨w.heap.size+1,1,none⟩) (by rw[boxes_size];show w.heap.size+1<w.heap.size+2;omega)).trans (by simp[boxes]),(hb.frozen (p:=⟨w.heap.size+1,2,none⟩) (by rw[boxes_size];show w.heap.size+1<w.heap.size+2;omega)).trans (by simp[boxes]),(hb.frozen (p:=⟨w.heap.size+1,3,none⟩) (by rw[boxes_size];show w.heap.size+1<w.heap.size+2;omega)).trans (by simp[boxes])⟩
theorem boxes_on{w w1:World}{k:Int}{t:ByteArray}(hb:Below (boxes w k t).heap.size (boxes w k t) w1):Below w.heap.size w w1:=(boxes_below w k t).trans (hb.mono (by rw[boxes_size];omega))
set_option maxHeartbeats 1600000 in
set_option maxRecDepth 100000 in
theorem read_num_ok(v:Value)(t:ByteArray)(w:World)(hs:t.size≤1048576)(hd:Digits t)(h0:0<t.size)(hn:numOk t=true):Calls Tryz.prog 86 #[v,.int .u8 2,.string t] w fun e w'=>e=.returned (.tuple #[.agg #[.int .u8 2,.string t,.int .i64 (numVal t),.int .i64 0],.int .i64 0])∧Below w.heap.size w w':=by
 have hv:numVal t=numTo t t.size:=if_pos hn
 rw[numOk_iff hd,decide_eq_true_eq] at hn
 obtain⟨hn1,hn2⟩:=hn
 have hp:=parseI t hd h0
 rw[if_pos hn1] at hp
 rw[hv]
 have HC:=parse_ok t hs _ hp (boxes w 2 t)
 have hbyte:=byteAt_lt h0
 rw[hbyte] at hn2
 generalize numTo t t.size=N at HC
 clear hp hn1 hv hd hbyte
 have hW:boxes w 2 t=(w.alloc (.cells #[.int .u8 0,.string ⟨#[]⟩,.int .i64 0,.int .i64 0] 72)).alloc (.cells #[.int .u8 2,.string t,.int .i64 0,.int .i64 0] 72):=rfl
 have HW:Hid _:=hW
 clear hW
 by_cases hz:(t[0].toNat:Int)=48
 ·have hq:decide ((1:Int)<(t.size:Int))=false:=by simp;omega
  clear hn2
  go_enter Tryz.func86,Tryz.ntmps86
  go_wp2_with fail
  rw[←HW.out]
  refine HC.mono ?_
  rintro e w1 ⟨rfl,hb⟩
  obtain⟨z0,z1,z2,z3,e0,e1,e2,e3,c0,c1,c2,c3,f0,f1,f2,f3⟩:=boxes_after hb
  have HB:Hid _:=boxes_on hb
  clear hb HC
  go_wp2
  refine bodyPost_ret (by simp[results,Tryz.results86,go_sem, *];try rfl) rfl ?_
  exact⟨rfl,(((((HB.out.setCell (p:=⟨w.heap.size+1,2,none⟩) (by simp) _).setCell (p:=⟨w.heap.size,0,none⟩) (Nat.le_refl _) _).setCell (p:=⟨w.heap.size,1,none⟩) (Nat.le_refl _) _).setCell (p:=⟨w.heap.size,2,none⟩) (Nat.le_refl _) _).setCell (p:=⟨w.heap.size,3,none⟩) (Nat.le_refl _) _)⟩
 ·clear hn2
  go_enter Tryz.func86,Tryz.ntmps86
  go_wp2_with fail
  rw[←HW.out]
  refine HC.mono ?_
  rintro e w1 ⟨rfl,hb⟩
  obtain⟨z0,z1,z2,z3,e0,e1,e2,e3,c0,c1,c2,c3,f0,f1,f2,f3⟩:=boxes_after hb
  have HB:Hid _:=boxes_on hb
  clear hb HC
  go_wp2
  refine bodyPost_ret (by simp[results,Tryz.results86,go_sem, *];try rfl) rfl ?_
  exact⟨rfl,(((((HB.out.setCell (p:=⟨w.heap.size+1,2,none⟩) (by simp) _).setCell (p:=⟨w.heap.size,0,none⟩) (Nat.le_refl _) _).setCell (p:=⟨w.heap.size,1,none⟩) (Nat.le_refl _) _).setCell (p:=⟨w.heap.size,2,none⟩) (Nat.le_refl _) _).setCell (p:=⟨w.heap.size,3,none⟩) (Nat.le_refl _) _)⟩
set_option maxHeartbeats 1600000 in
set_option maxRecDepth 100000 in
theorem read_num_bad(v:Value)(t:ByteArray)(w:World)(hr:RangeVar w)(hs:t.size≤1048576)(hd:Digits t)(h0:0<t.size)(hn:numOk t=false):Calls Tryz.prog 86 #[v,.int .u8 2,.string t] w fun e w'=>e=.returned (.tuple #[.agg #[.int .u8 0,.string ⟨#[]⟩,.int .i64 0,.int .i64 0],.int .i64 31])∧Below w.heap.size w w':=by
 rw[numOk_iff hd,decide_eq_false_iff_not] at hn
 have hp:=parseI t hd h0
 have hbyte:=byteAt_lt h0
 rw[hbyte] at hn
 clear hbyte
 have hW:boxes w 2 t=(w.alloc (.cells #[.int .u8 0,.string ⟨#[]⟩,.int .i64 0,.int .i64 0] 72)).alloc (.cells #[.int .u8 2,.string t,.int .i64 0,.int .i64 0] 72):=rfl
 have HW:Hid _:=hW
 clear hW
 by_cases hm:numTo t t.size≤9223372036854775807
 ·rw[if_pos hm] at hp
  have HC:=parse_ok t hs _ hp (boxes w 2 t)
  have hn2:1<t.size∧(t[0].toNat:Int)=48:=Classical.byContradiction fun h=>hn ⟨hm,h⟩
  obtain⟨hq0,hz⟩:=hn2
  have hq:decide ((1:Int)<(t.size:Int))=true:=by simp;omega
  generalize numTo t t.size=N at HC
  clear hp hm hd hn hq0
  go_enter Tryz.func86,Tryz.ntmps86
  go_wp2_with fail
  rw[←HW.out]
  refine HC.mono ?_
  rintro e w1 ⟨rfl,hb⟩
  obtain⟨z0,z1,z2,z3,e0,e1,e2,e3,c0,c1,c2,c3,f0,f1,f2,f3⟩:=boxes_after hb
  have HB:Hid _:=boxes_on hb
  clear hb HC
  go_wp2
  refine bodyPost_ret (by simp[results,Tryz.results86,go_sem, *];try rfl) rfl ?_
  exact⟨rfl,((((HB.out.setCell (p:=⟨w.heap.size,0,none⟩) (Nat.le_refl _) _).setCell (p:=⟨w.heap.size,1,none⟩) (Nat.le_refl _) _).setCell (p:=⟨w.heap.size,2,none⟩) (Nat.le_refl _) _).setCell (p:=⟨w.heap.size,3,none⟩) (Nat.le_refl _) _)⟩
 ·rw[if_neg hm] at hp
  have HC:=parse_range t hs hp (boxes w 2 t) (hr.below (boxes_below w 2 t))
  clear hp hm hd hn hr
  go_enter Tryz.func86,Tryz.ntmps86
  go_wp2_with fail
  rw[←HW.out]
  refine HC.mono ?_
  rintro e w1 ⟨n,N,rfl,hb⟩
  obtain⟨z0,z1,z2,z3,e0,e1,e2,e3,c0,c1,c2,c3,f0,f1,f2,f3⟩:=boxes_after hb
  have HB:Hid _:=boxes_on hb
  clear hb HC
  go_wp2
  refine bodyPost_ret (by simp[results,Tryz.results86,go_sem, *];try rfl) rfl ?_
  exact⟨rfl,((((HB.out.setCell (p:=⟨w.heap.size,0,none⟩) (Nat.le_refl _) _).setCell (p:=⟨w.heap.size,1,none⟩) (Nat.le_refl _) _).setCell (p:=⟨w.heap.size,2,none⟩) (Nat.le_refl _) _).setCell (p:=⟨w.heap.size,3,none⟩) (Nat.le_refl _) _)⟩
set_option maxHeartbeats 1600000 in
theorem newL_calls(s:ByteArray)(k e:Int)(w:World):Calls Tryz.prog 87 #[.string s,.int .i64 k,.int .i64 e] w fun x w'=>x=.returned (.iface 154 (.agg #[.string s,.int .i64 k,.int .i64 e]))∧Below w.heap.size w w':=by
 go_enter Tryz.func87,Tryz.ntmps87
 go_wp2_with fail
 go_ret
 exact⟨rfl,Below.refl _ _⟩
set_option maxHeartbeats 1600000 in
theorem fault_calls(k e:Int)(w:World):Calls Tryz.prog 82 #[.int .i64 k,.int .i64 e] w fun r w'=>r=.returned (.iface 154 (.agg #[.string ⟨#[110,111,32,116,111,107,101,110,115]⟩,.int .i64 k,.int .i64 e]))∧Below w.heap.size w w':=by
 have C:=newL_calls ⟨#[110,111,32,116,111,107,101,110,115]⟩ k e w
 go_enter Tryz.func82,Tryz.ntmps82
 go_wp2_with fail
 refine C.mono ?_
 rintro x w1 ⟨rfl,hb⟩
 have HB:Hid _:=hb
 clear C hb
 go_wp2_with fail
 go_ret
 exact⟨rfl,HB.out⟩
theorem clone_calls(s:ByteArray)(w:World)(hs:s.size≤1048576):Calls Tryz.prog 83 #[.string s] w fun e w'=>e=.returned (.string s)∧Below w.heap.size w w':=by
 have HC:∀W:World,Calls Tryz.prog 110 #[.string s] W fun e w'=>e=.returned (.string s)∧Below W.heap.size W w':=fun W=>Any.stringslite_Clone Tryz.laysClone s W (by omega)
 go_enter Tryz.func83,Tryz.ntmps83
 go_wp2_with fail
 refine(HC _).mono ?_
 rintro e w1 ⟨rfl,hb⟩
 go_wp2
 go_ret
 exact⟨rfl,hb⟩
theorem step_tok{s:ByteArray}{k:Nat}(hk:k<s.size)(hb:blankB (byteAt s k)=false)(hh:hyphensB s k=false)(hs:s.size≤1048576) :
  ∃(kd0:Int)(m:Nat)(kd:Int)(tx:ByteArray)(nt er:Int),begunOf (s.extract k s.size)=(kd0,(m:Int))∧(kd0==255)=false∧k+m≤s.size∧(er=0→tx.size=m∧tokenOf s k=(⟨kd,tx,nt,k⟩,0))∧(er≠0→(tokenOf s k).2=er) ∧
   ∀(W:World)(b:Nat),HasWords W b→RangeVar W→Calls Tryz.prog 86 #[.map (some b),.int .u8 kd0,.string (s.extract k (k+m))] W fun e w'=>e=.returned (.tuple #[.agg #[.int .u8 kd,.string tx,.int .i64 nt,.int .i64 0],.int .i64 er])∧Below W.heap.size W w':=by
 rcases begun_tok hk hb hh with⟨h1,h2⟩|⟨m,h1,h2,h3,h4⟩|⟨m,h1,h2,h3,h4⟩|⟨m,h1,h2,h3,h4,h5⟩
 ·exact⟨254,0,0,⟨#[]⟩,0,30,h1,by decide,by omega,fun h=>absurd h (by decide),fun _=>by rw[h2],fun W b _ _=>read_none _ _ W⟩
 ·refine⟨4,m,4,s.extract k (k+m),0,0,h1,by decide,h3,fun _=>⟨by rw[ByteArray.size_extract];omega,h4⟩,fun h=>absurd rfl h,fun W b _ _=>read_sign _ _ W⟩
 ·have hle:=wordEnd_le s k (by omega)
  have hx:(s.extract k (k+m)).size=m:=by rw[ByteArray.size_extract];omega
  by_cases h32:m≤32
  ·refine⟨1,m,if wordB (s.extract k (k+m))=true then 3 else 1,s.extract k (k+m),0,0,h1,by decide,by omega,fun _=>⟨hx,?_⟩,fun h=>absurd rfl h,fun W b hw _=>?_⟩
   ·unfold tokenOf
    rw[if_pos h4,if_pos (by omega),h3]
   ·have:=read_name b (s.extract k (k+m)) W hw (by omega)
    rw[if_pos (by omega)] at this
    exact this
  ·refine⟨1,m,0,⟨#[]⟩,0,32,h1,by decide,by omega,fun h=>absurd h (by decide),fun _=>?_,fun W b hw _=>?_⟩
   ·unfold tokenOf
    rw[if_pos h4,if_neg (by omega)]
   ·have:=read_name b (s.extract k (k+m)) W hw (by omega)
    rw[if_neg (by omega)] at this
    exact this
 ·have hle:=digitEnd_le s k (by omega)
  have hx:(s.extract k (k+m)).size=m:=by rw[ByteArray.size_extract];omega
  have hD:Digits (s.extract k (k+m)):=by rw[h3];exact digits_extract s k (by omega)
  have hT:tokenOf s k=if numOk (s.extract k (k+m))=true then (⟨2,s.extract k (k+m),numVal (s.extract k (k+m)),k⟩,0) else (⟨0,⟨#[]⟩,0,0⟩,31):=by
   unfold tokenOf
   rw[if_neg (by simp[h4]),if_pos h5,h3]
  by_cases hn:numOk (s.extract k (k+m))=true
  ·rw[if_pos hn] at hT
   exact⟨2,m,2,s.extract k (k+m),numVal (s.extract k (k+m)),0,h1,by decide,by omega,fun _=>⟨hx,hT⟩,fun h=>absurd rfl h,fun W b _ _=>read_num_ok _ _ W (by omega) hD (by omega) hn⟩
  ·rw[if_neg hn] at hT
   exact⟨2,m,0,⟨#[]⟩,0,31,h1,by decide,by omega,fun h=>absurd h (by decide),fun _=>by rw[hT],fun W b _ hr=>read_num_bad _ _ W hr (by omega) hD (by omega) (by simpa using hn)⟩
end Go.Proofs.YthbgnpkgglbhjaaGreatDoor
