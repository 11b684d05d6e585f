import Derived.Test.YthbgnpkgglbhjaaGreatDoorLexSome
import Derived.Test.YthbgnpkgglbhjaaGreatDoorRdSigns
import Derived.Test.YthbgnpkgglbhjaaGreatDoorProg
import Derived.Below
import Derived.Handy
import Derived.WalkKit
import Derived.WalkLawsBesides
namespace Go.Proofs.YthbgnpkgglbhjaaGreatDoor
open Go.RowKit
def tkCells(t:Tok):List Value:=[.int .u8 t.kind,.string t.text,.int .i64 t.int,.int .i64 t.place]
def tkVal(t:Tok):Value:=.agg (tkCells t).toArray
def badVal(k:Nat)(e:Int):Value:=.iface 154 (.agg #[.string ⟨#[110,111,32,116,114,101,101]⟩,.int .i64 k,.int .i64 e])
structure KeepsB(b:Nat)(w w':World):Prop where
 os:w'.os=w.os
 tape:w'.tape=w.tape
 output:w'.output=w.output
 size:w.heap.size≤w'.heap.size
 block:∀k,k<w.heap.size→k≠b→w'.heap[k]?=w.heap[k]?
theorem KeepsB.refl(b:Nat)(w:World):KeepsB b w w:=⟨rfl,rfl,rfl,Nat.le_refl _,fun _ _ _=>rfl⟩
theorem KeepsB.trans{b:Nat}{w w1 w2:World}(h:KeepsB b w w1)(k:KeepsB b w1 w2):KeepsB b w w2:=⟨k.os.trans h.os,k.tape.trans h.tape,k.output.trans h.output,Nat.le_trans h.size k.size,fun i hi hb=>(k.block i (Nat.lt_of_lt_of_le hi h.size) hb).trans (h.block i hi hb)⟩
theorem KeepsB.setCell(b i:Nat)(v:Value)(w:World):KeepsB b w (w.setCell ⟨b,i,none⟩ v):=⟨rfl,rfl,rfl,by simp,fun k _ hb=>Below.heap_setCell _ _ _ _ hb⟩
theorem KeepsB.cell{R b i:Nat}{w w2:World}(h:KeepsB R w w2)(hb:b<w.heap.size)(hR:b≠R):w2.cell? ⟨b,i,none⟩=w.cell? ⟨b,i,none⟩∧w2.frozen? ⟨b,i,none⟩=w.frozen? ⟨b,i,none⟩:=⟨World.cell?_of_block (h.block b hb hR),World.frozen?_of_block (h.block b hb hR)⟩
theorem KeepsB.ofBelow{b:Nat}{w w':World}(h:Below w.heap.size w w'):KeepsB b w w':=⟨h.os,h.tape,h.output,h.size,fun k hk _=>h.block k hk⟩
structure RdAt(W0:World)(R:Nat)(ts:List Tok)(op:Nat)(w:World):Prop where
 keeps:KeepsB R W0 w
 row:∃g o cap,w.cell? ⟨R,0,none⟩=some (.slice (some ⟨g,o,none⟩) ts.length cap)∧ts.length≤cap∧g≠R∧g<W0.heap.size∧∀i (h:i<ts.length) j,j<4→W0.cell? ⟨g,o+i*4+j,none⟩=(tkCells ts[i])[j]?
 opn:w.cell? ⟨R,1,none⟩=some (.int .i64 op)
 map:∃mb,w.cell? ⟨R,2,none⟩=some (.map (some mb))∧HasSigns W0 mb∧mb≠R
 fr0:w.frozen? ⟨R,0,none⟩=false
 fr1:w.frozen? ⟨R,1,none⟩=false
 lt0:R<W0.heap.size
 le:op≤200
theorem RdAt.lt{W0:World}{R op:Nat}{ts:List Tok}{w:World}(h:RdAt W0 R ts op w):R<w.heap.size:=Nat.lt_of_lt_of_le h.lt0 h.keeps.size
def rp(R:Nat):Value:=.pointer (some ⟨R,0,none⟩)
theorem RdAt.below{W0:World}{R op:Nat}{ts:List Tok}{w w':World}(h:RdAt W0 R ts op w)(hb:Below w.heap.size w w'):RdAt W0 R ts op w':=by
 have h9:=h.lt
 obtain⟨hk,⟨g,o,cap,h1,h2⟩,h4,⟨mb,h5,h5'⟩,h6,h7,h8,h10⟩:=h
 exact⟨hk.trans (KeepsB.ofBelow hb),⟨g,o,cap,(hb.cell (p:=⟨R,0,none⟩) h9).trans h1,h2⟩,(hb.cell (p:=⟨R,1,none⟩) h9).trans h4,⟨mb,(hb.cell (p:=⟨R,2,none⟩) h9).trans h5,h5'⟩,(hb.frozen (p:=⟨R,0,none⟩) h9).trans h6,(hb.frozen (p:=⟨R,1,none⟩) h9).trans h7,h8,h10⟩
theorem RdAt.head{W0:World}{R op:Nat}{t:Tok}{ts:List Tok}{w:World}(h:RdAt W0 R (t::ts) op w):∃g o cap,w.cell? ⟨R,0,none⟩=some (.slice (some ⟨g,o,none⟩) (ts.length+1) cap)∧ts.length+1≤cap∧w.cell? ⟨g,o,none⟩=some (.int .u8 t.kind)∧w.cell? ⟨g,o+1,none⟩=some (.string t.text)∧w.cell? ⟨g,o+2,none⟩=some (.int .i64 t.int)∧w.cell? ⟨g,o+3,none⟩=some (.int .i64 t.place)∧g≠R∧g<w.heap.size:=by
 obtain⟨g,o,cap,h1,h2,h4,h5,h3⟩:=h.row
 have hc:∀j,j<4→w.cell? ⟨g,o+j,none⟩=(tkCells t)[j]?:=fun j hj=>by
  have c:=h3 0 (by simp) j hj
  simp only[Nat.zero_mul,Nat.add_zero,List.getElem_cons_zero] at c
  exact(h.keeps.cell h5 h4).1.trans c
 exact⟨g,o,cap,h1,h2,hc 0 (by omega),hc 1 (by omega),hc 2 (by omega),hc 3 (by omega),h4,Nat.lt_of_lt_of_le h5 h.keeps.size⟩
theorem text_same(a b:ByteArray):(a.toList==b.toList)=decide (a=b):=by
 rw[Bool.eq_iff_iff,beq_iff_eq,decide_eq_true_iff,ByteArray.toList_eq,ByteArray.toList_eq]
 refine⟨fun h=>?_,fun h=>by rw[h]⟩
 cases a;cases b
 simpa using h
theorem tk_f0(a:Int)(b:ByteArray)(c d:Int)(w:World):(Instr.field 72 (.agg #[.int .u8 a,.string b,.int .i64 c,.int .i64 d]) 0).run Tryz.prog w=.ok (.int .u8 a) w:=by kernel_rfl
theorem tk_f1(a:Int)(b:ByteArray)(c d:Int)(w:World):(Instr.field 72 (.agg #[.int .u8 a,.string b,.int .i64 c,.int .i64 d]) 1).run Tryz.prog w=.ok (.string b) w:=by kernel_rfl
theorem tk_f2(a:Int)(b:ByteArray)(c d:Int)(w:World):(Instr.field 72 (.agg #[.int .u8 a,.string b,.int .i64 c,.int .i64 d]) 2).run Tryz.prog w=.ok (.int .i64 c) w:=by kernel_rfl
theorem tk_f3(a:Int)(b:ByteArray)(c d:Int)(w:World):(Instr.field 72 (.agg #[.int .u8 a,.string b,.int .i64 c,.int .i64 d]) 3).run Tryz.prog w=.ok (.int .i64 d) w:=by kernel_rfl
attribute [local go_sem] tk_f0 tk_f1 tk_f2 tk_f3
set_option maxRecDepth 100000 in
set_option maxHeartbeats 1600000 in
theorem next_rd{W0:World}{R op:Nat}{t:Tok}{ts:List Tok}{w:World}(h:RdAt W0 R (t::ts) op w):Calls Tryz.prog 54 #[rp R] w fun x w'=>x=.returned (tkVal t)∧Below w.heap.size w w':=by
 obtain⟨g,o,cap,h1,h2,e0,e1,e2,e3,hgR,hG⟩:=h.head
 have hR:=h.lt
 clear h
 simp only[rp]
 go_enter Tryz.func54,Tryz.ntmps54
 go_wp2
 refine bodyPost_ret (by simp[results,Tryz.results54,go_sem, *];try rfl) rfl ?_
 exact⟨rfl,bal _⟩
set_option maxRecDepth 100000 in
set_option maxHeartbeats 1600000 in
theorem new_calls(s:ByteArray)(k e:Int)(w:World):Calls Tryz.prog 87 #[.string s,.int .i64 k,.int .i64 e] w fun x w'=>x=.returned (.iface 154 (.agg #[.string s,.int .i64 k,.int .i64 e]))∧Below w.heap.size w w':=by
 go_enter Tryz.func87,Tryz.ntmps87
 go_wp2_with fail
 go_ret
 exact⟨rfl,Below.refl _ _⟩
set_option maxRecDepth 100000 in
set_option maxHeartbeats 1600000 in
theorem wrong_rd{W0:World}{R op:Nat}{t:Tok}{ts:List Tok}{w:World}(e:Int)(h:RdAt W0 R (t::ts) op w):Calls Tryz.prog 55 #[rp R,.int .i64 e] w fun x w'=>x=.returned (badVal t.place e)∧Below w.heap.size w w':=by
 have CN:=next_rd h
 clear h
 simp only[rp,tkVal,tkCells] at CN ⊢
 go_enter Tryz.func55,Tryz.ntmps55
 go_wp2_with fail
 refine CN.mono ?_
 rintro x w1 ⟨rfl,hb⟩
 have HB:Hid _:=hb
 clear CN hb
 have CW:=new_calls ⟨#[110,111,32,116,114,101,101]⟩ t.place e w1
 go_wp2_with fail
 refine CW.mono ?_
 rintro x w2 ⟨rfl,hb2⟩
 have HB2:=hid (HB.out.trans (hb2.mono HB.out.size))
 clear CW hb2
 go_wp2_with fail
 go_ret
 exact⟨rfl,HB2.out⟩
set_option maxRecDepth 100000 in
set_option maxHeartbeats 1600000 in
theorem is_rd{W0:World}{R op:Nat}{t:Tok}{ts:List Tok}{w:World}(s:ByteArray)(h:RdAt W0 R (t::ts) op w):Calls Tryz.prog 57 #[rp R,.string s] w fun x w'=>x=.returned (.bool (decide (t.text=s)))∧Below w.heap.size w w':=by
 have CN:=next_rd h
 clear h
 simp only[rp,tkVal,tkCells] at CN ⊢
 go_enter Tryz.func57,Tryz.ntmps57
 go_wp2_with fail
 refine CN.mono ?_
 rintro x w1 ⟨rfl,hb⟩
 have HB:Hid _:=hb
 clear CN hb
 go_wp2_with fail
 go_ret
 exact⟨congrArg (fun b=>Ending.returned (.bool b)) (text_same t.text s),HB.out⟩
theorem RdAt.took{W0:World}{R op g o cap:Nat}{t t':Tok}{ts:List Tok}{w:World}(h:RdAt W0 R (t::t'::ts) op w)(h0:w.cell? ⟨R,0,none⟩=some (.slice (some ⟨g,o,none⟩) (ts.length+1+1) cap)):RdAt W0 R (t'::ts) op (w.setCell ⟨R,0,none⟩ (.slice (some ⟨g,o+4,none⟩) (ts.length+1) (cap-1))):=by
 obtain⟨hk,⟨g',o',cap',h1,h2,k1,k2,h3⟩,h4,⟨mb,h5,h5'⟩,h6,h7,h8,h10⟩:=h
 obtain⟨rfl,rfl,rfl⟩:g'=g∧o'=o∧cap'=cap:=by
  have:=h1.symm.trans h0
  simp only[Option.some.injEq,Value.slice.injEq,Addr.mk.injEq] at this
  exact⟨this.1.1,this.1.2.1,this.2.2⟩
 refine⟨hk.trans (KeepsB.setCell _ _ _ _),⟨g',o'+4,cap'-1,World.cell?_setCell_same _ _ _ h1,by simp only[List.length_cons] at h2 ⊢;omega,k1,k2,fun i hi j hj=>?_⟩,?_,⟨mb,?_,h5'⟩,by simpa using h6,by simpa using h7,h8,h10⟩
 ·have:=h3 (i+1) (by simpa using hi) j hj
  rw[show o'+(i+1)*4+j=o'+4+i*4+j by omega] at this
  simpa using this
 ·rw[World.cell?_setCell_other _ _ _ _ (by simp)];exact h4
 ·rw[World.cell?_setCell_other _ _ _ _ (by simp)];exact h5
set_option maxRecDepth 100000 in
set_option maxHeartbeats 1600000 in
theorem take_rd{W0:World}{R op:Nat}{t t':Tok}{ts:List Tok}{w:World}(h:RdAt W0 R (t::t'::ts) op w):Calls Tryz.prog 91 #[rp R] w fun x w'=>x=.returned (tkVal t)∧RdAt W0 R (t'::ts) op w'∧KeepsB R w w':=by
 obtain⟨g,o,cap,h1,h2,e0,e1,e2,e3,hgR,hG⟩:=h.head
 simp only[List.length_cons] at h1 h2
 have hR:=h.lt
 have hf:=h.fr0
 have HT:Hid _:=h.took h1
 have hc:¬cap=1:=by omega
 have hc1:(1:Int)≤cap:=by omega
 clear h
 simp only[rp]
 go_enter Tryz.func91,Tryz.ntmps91
 go_wp2_with fail
 refine bodyPost_ret (by simp[results,Tryz.results91,go_sem, *];try rfl) rfl ?_
 have hb:∀(a b:Obj)(W:World),Below W.heap.size W ((W.alloc a).alloc b):=fun a b W=>(bal _).alloc (by simp) _
 exact⟨rfl,HT.out.below (hb _ _ _),(KeepsB.setCell _ _ _ _).trans (KeepsB.ofBelow (hb _ _ _))⟩
def bad(t:Tok)(e:Int):Ending:=.panicked [{ v:=badVal t.place e,recovered:=false }]
set_option maxRecDepth 100000 in
set_option maxHeartbeats 1600000 in
theorem skip_rd{W0:World}{R op:Nat}{t t':Tok}{ts:List Tok}{w:World}(s:ByteArray)(h:RdAt W0 R (t::t'::ts) op w)(hs:t.text=s):Calls Tryz.prog 98 #[rp R,.string s] w fun x w'=>x=.returned (.bool true)∧RdAt W0 R (t'::ts) op w'∧KeepsB R w w':=by
 have CI:=is_rd s h
 have HT:Hid (∀w',Below w.heap.size w w'→Calls Tryz.prog 91 #[rp R] w' fun x w''=>x=.returned (tkVal t)∧RdAt W0 R (t'::ts) op w''∧KeepsB R w' w''):=fun w' hb=>take_rd (h.below hb)
 rw[decide_eq_true hs] at CI
 clear h hs
 simp only[rp] at CI HT ⊢
 go_enter Tryz.func98,Tryz.ntmps98
 go_wp2_with fail
 refine CI.mono ?_
 rintro x w1 ⟨rfl,hb⟩
 have HB:=hid hb
 have CT:=HT.out w1 hb
 clear CI hb
 go_wp2_with fail
 refine CT.mono ?_
 rintro x w2 ⟨rfl,hr,hk⟩
 have HR:Hid _:=hr
 have HK:=hid ((KeepsB.ofBelow HB.out).trans hk)
 clear CT hr hk
 go_wp2_with fail
 go_ret
 exact⟨rfl,HR.out,HK.out⟩
set_option maxRecDepth 100000 in
set_option maxHeartbeats 1600000 in
theorem noskip_rd{W0:World}{R op:Nat}{t:Tok}{ts:List Tok}{w:World}(s:ByteArray)(h:RdAt W0 R (t::ts) op w)(hs:¬t.text=s):Calls Tryz.prog 98 #[rp R,.string s] w fun x w'=>x=.returned (.bool false)∧Below w.heap.size w w':=by
 have CI:=is_rd s h
 rw[decide_eq_false hs] at CI
 clear h hs
 simp only[rp] at CI ⊢
 go_enter Tryz.func98,Tryz.ntmps98
 go_wp2_with fail
 refine CI.mono ?_
 rintro x w1 ⟨rfl,hb⟩
 have HB:=hid hb
 clear CI hb
 go_wp2_with fail
 go_ret
 exact⟨rfl,HB.out⟩
set_option maxRecDepth 100000 in
set_option maxHeartbeats 1600000 in
theorem want_rd{W0:World}{R op:Nat}{t t':Tok}{ts:List Tok}{w:World}(s:ByteArray)(h:RdAt W0 R (t::t'::ts) op w)(hs:t.text=s):Calls Tryz.prog 66 #[rp R,.string s] w fun x w'=>x=.returned (.tuple #[])∧RdAt W0 R (t'::ts) op w'∧KeepsB R w w':=by
 have CI:=skip_rd s h hs
 clear h hs
 simp only[rp] at CI ⊢
 go_enter Tryz.func66,Tryz.ntmps66
 go_wp2_with fail
 refine CI.mono ?_
 rintro x w1 ⟨rfl,hr,hk⟩
 have HR:Hid _:=hr
 have HK:Hid _:=hk
 clear CI hr hk
 go_wp2_with fail
 go_end0
 exact⟨rfl,HR.out,HK.out⟩
set_option maxRecDepth 100000 in
set_option maxHeartbeats 1600000 in
theorem nowant_rd{W0:World}{R op:Nat}{t:Tok}{ts:List Tok}{w:World}(s:ByteArray)(h:RdAt W0 R (t::ts) op w)(hs:¬t.text=s):Calls Tryz.prog 66 #[rp R,.string s] w fun x w'=>x=bad t 60∧Below w.heap.size w w':=by
 have CI:=noskip_rd s h hs
 have HW:Hid (∀w',Below w.heap.size w w'→Calls Tryz.prog 55 #[rp R,.int .i64 60] w' fun x w''=>x=.returned (badVal t.place 60)∧Below w'.heap.size w' w''):=fun w' hb=>wrong_rd 60 (h.below hb)
 clear h hs
 simp only[rp,badVal,bad] at CI HW ⊢
 go_enter Tryz.func66,Tryz.ntmps66
 go_wp2_with fail
 refine CI.mono ?_
 rintro x w1 ⟨rfl,hb⟩
 have HB:=hid hb
 have CW:=HW.out w1 hb
 clear CI hb
 go_wp2_with fail
 refine CW.mono ?_
 rintro x w2 ⟨rfl,hb2⟩
 have HB2:=hid (HB.out.trans (hb2.mono HB.out.size))
 clear CW hb2
 go_wp2_with fail
 exact⟨rfl,rfl,HB2.out⟩
set_option maxRecDepth 100000 in
set_option maxHeartbeats 1600000 in
theorem name_rd{W0:World}{R op:Nat}{t t':Tok}{ts:List Tok}{w:World}(h:RdAt W0 R (t::t'::ts) op w)(hk:t.kind=1):Calls Tryz.prog 92 #[rp R] w fun x w'=>x=.returned (.string t.text)∧RdAt W0 R (t'::ts) op w'∧KeepsB R w w':=by
 have CN:=next_rd h
 have HT:Hid (∀w',Below w.heap.size w w'→Calls Tryz.prog 91 #[rp R] w' fun x w''=>x=.returned (tkVal t)∧RdAt W0 R (t'::ts) op w''∧KeepsB R w' w''):=fun w' hb=>take_rd (h.below hb)
 clear h
 simp only[rp,tkVal,tkCells] at CN HT ⊢
 rw[hk] at CN
 clear hk
 go_enter Tryz.func92,Tryz.ntmps92
 go_wp2_with fail
 refine CN.mono ?_
 rintro x w1 ⟨rfl,hb⟩
 have HB:=hid hb
 have CT:=HT.out w1 hb
 clear CN hb
 go_wp2_with fail
 refine CT.mono ?_
 rintro x w2 ⟨rfl,hr,hk⟩
 have HR:Hid _:=hr
 have HK:=hid ((KeepsB.ofBelow HB.out).trans hk)
 clear CT hr hk
 go_wp2_with fail
 go_ret
 exact⟨rfl,HR.out,HK.out⟩
set_option maxRecDepth 100000 in
set_option maxHeartbeats 1600000 in
theorem noname_rd{W0:World}{R op:Nat}{t:Tok}{ts:List Tok}{w:World}(h:RdAt W0 R (t::ts) op w)(hk:¬t.kind=1):Calls Tryz.prog 92 #[rp R] w fun x w'=>x=bad t 60∧Below w.heap.size w w':=by
 have CN:=next_rd h
 have HW:Hid (∀w',Below w.heap.size w w'→Calls Tryz.prog 55 #[rp R,.int .i64 60] w' fun x w''=>x=.returned (badVal t.place 60)∧Below w'.heap.size w' w''):=fun w' hb=>wrong_rd 60 (h.below hb)
 clear h
 simp only[rp,tkVal,tkCells,badVal,bad] at CN HW ⊢
 have hk2:=beq_false_of_ne hk
 go_enter Tryz.func92,Tryz.ntmps92
 go_wp2_with fail
 refine CN.mono ?_
 rintro x w1 ⟨rfl,hb⟩
 have HB:=hid hb
 have CW:=HW.out w1 hb
 clear CN hb
 go_wp2_with fail
 refine CW.mono ?_
 rintro x w2 ⟨rfl,hb2⟩
 have HB2:=hid (HB.out.trans (hb2.mono HB.out.size))
 clear CW hb2
 go_wp2_with fail
 exact⟨rfl,rfl,HB2.out⟩
set_option maxRecDepth 100000 in
set_option maxHeartbeats 1600000 in
theorem number_rd{W0:World}{R op:Nat}{t t':Tok}{ts:List Tok}{w:World}(l:Int)(h:RdAt W0 R (t::t'::ts) op w)(hk:t.kind=2)(hl:¬t.int<l):Calls Tryz.prog 123 #[rp R,.int .i64 l] w fun x w'=>x=.returned (.int .i64 t.int)∧RdAt W0 R (t'::ts) op w'∧KeepsB R w w':=by
 have CN:=next_rd h
 have HN:Hid (∀w',Below w.heap.size w w'→Calls Tryz.prog 54 #[rp R] w' fun x w''=>x=.returned (tkVal t)∧Below w'.heap.size w' w''):=fun w' hb=>next_rd (h.below hb)
 have HT:Hid (∀w',Below w.heap.size w w'→Calls Tryz.prog 91 #[rp R] w' fun x w''=>x=.returned (tkVal t)∧RdAt W0 R (t'::ts) op w''∧KeepsB R w' w''):=fun w' hb=>take_rd (h.below hb)
 clear h
 have hl1:l≤t.int:=by omega
 simp only[rp,tkVal,tkCells] at CN HT HN ⊢
 rw[hk] at CN
 clear hk
 go_enter Tryz.func123,Tryz.ntmps123
 go_wp2_with fail
 refine CN.mono ?_
 rintro x w1 ⟨rfl,hb⟩
 have HB:=hid hb
 have C2:=HN.out w1 hb
 clear CN hb
 go_wp2_with fail
 refine C2.mono ?_
 rintro x w2 ⟨rfl,hb2⟩
 have HB2:=hid (HB.out.trans (hb2.mono HB.out.size))
 have CT:=HT.out w2 HB2.out
 clear C2 hb2
 go_wp2_with fail
 refine CT.mono ?_
 rintro x w3 ⟨rfl,hr,hk⟩
 have HR:Hid _:=hr
 have HK:=hid ((KeepsB.ofBelow HB2.out).trans hk)
 clear CT hr hk
 go_wp2_with fail
 go_ret
 exact⟨rfl,HR.out,HK.out⟩
set_option maxRecDepth 100000 in
set_option maxHeartbeats 1600000 in
theorem nonumber_rd{W0:World}{R op:Nat}{t:Tok}{ts:List Tok}{w:World}(l:Int)(h:RdAt W0 R (t::ts) op w)(hk:¬(t.kind=2∧¬t.int<l)):Calls Tryz.prog 123 #[rp R,.int .i64 l] w fun x w'=>x=bad t 60∧Below w.heap.size w w':=by
 have CN:=next_rd h
 have HN:Hid (∀w',Below w.heap.size w w'→Calls Tryz.prog 54 #[rp R] w' fun x w''=>x=.returned (tkVal t)∧Below w'.heap.size w' w''):=fun w' hb=>next_rd (h.below hb)
 have HW:Hid (∀w',Below w.heap.size w w'→Calls Tryz.prog 55 #[rp R,.int .i64 60] w' fun x w''=>x=.returned (badVal t.place 60)∧Below w'.heap.size w' w''):=fun w' hb=>wrong_rd 60 (h.below hb)
 clear h
 simp only[rp,tkVal,tkCells,badVal,bad] at CN HW HN ⊢
 go_enter Tryz.func123,Tryz.ntmps123
 go_wp2_with fail
 refine CN.mono ?_
 rintro x w1 ⟨rfl,hb⟩
 have HB:=hid hb
 clear CN
 by_cases h2:t.kind=2
 ·have C2:=HN.out w1 hb
  rw[h2] at C2 ⊢
  have hl:t.int<l:=by rcases Int.lt_or_le t.int l with h|h;exact h;exact absurd ⟨h2,by omega⟩ hk
  clear hb hk h2
  go_wp2_with fail
  refine C2.mono ?_
  rintro x w2 ⟨rfl,hb2⟩
  have HB2:=hid (HB.out.trans (hb2.mono HB.out.size))
  have CW:=HW.out w2 HB2.out
  clear C2 hb2
  go_wp2_with fail
  refine CW.mono ?_
  rintro x w3 ⟨rfl,hb3⟩
  have HB3:=hid (HB2.out.trans (hb3.mono HB2.out.size))
  clear CW hb3
  go_wp2_with fail
  exact⟨rfl,rfl,HB3.out⟩
 ·have hk2:=beq_false_of_ne h2
  have CW:=HW.out w1 hb
  clear hb hk
  go_wp2_with fail
  refine CW.mono ?_
  rintro x w3 ⟨rfl,hb3⟩
  have HB3:=hid (HB.out.trans (hb3.mono HB.out.size))
  clear CW hb3
  go_wp2_with fail
  exact⟨rfl,rfl,HB3.out⟩
theorem RdAt.opened{W0:World}{R op:Nat}{ts:List Tok}{w:World}(h:RdAt W0 R ts op w)(n:Nat)(hn:n≤200):RdAt W0 R ts n (w.setCell ⟨R,1,none⟩ (.int .i64 n)):=by
 obtain⟨hk,⟨g,o,cap,h1,h2⟩,h4,⟨mb,h5,h5'⟩,h6,h7,h8,h10⟩:=h
 exact⟨hk.trans (KeepsB.setCell _ _ _ _),⟨g,o,cap,(World.cell?_setCell_other _ _ _ _ (by simp)).trans h1,h2⟩,World.cell?_setCell_same _ _ _ h4,⟨mb,(World.cell?_setCell_other _ _ _ _ (by simp)).trans h5,h5'⟩,by simpa using h6,by simpa using h7,h8,hn⟩
theorem KeepsB.new{R b i:Nat}{v:Value}{w w2:World}(h:KeepsB R w w2)(hb:w.heap.size≤b):KeepsB R w (w2.setCell ⟨b,i,none⟩ v) :=
 ⟨h.os,h.tape,h.output,by have:=h.size;simpa using this,fun k hk hR=>(Below.heap_setCell _ _ _ _ (by show k≠b;omega)).trans (h.block k hk hR)⟩
theorem RdAt.other{W0:World}{R op b i:Nat}{ts:List Tok}{v:Value}{w:World}(h:RdAt W0 R ts op w)(hb:W0.heap.size≤b):RdAt W0 R ts op (w.setCell ⟨b,i,none⟩ v):=by
 have hbR:b≠R:=by have:=h.lt0;omega
 obtain⟨hk,⟨g,o,cap,h1,h2⟩,h4,⟨mb,h5,h5'⟩,h6,h7,h8,h10⟩:=h
 have ho:∀j,(w.setCell ⟨b,i,none⟩ v).cell? ⟨R,j,none⟩=w.cell? ⟨R,j,none⟩:=fun j=>World.cell?_of_block (Below.heap_setCell _ _ _ _ (Ne.symm hbR))
 exact⟨hk.new hb,⟨g,o,cap,(ho _).trans h1,h2⟩,(ho _).trans h4,⟨mb,(ho _).trans h5,h5'⟩,by simpa using h6,by simpa using h7,h8,h10⟩
def tkZero:Array Value:=#[.int .u8 0,.string ⟨#[]⟩,.int .i64 0,.int .i64 0]
def tkStore(w:World)(b:Nat)(t:Tok):World:=(((w.setCell ⟨b,0,none⟩ (.int .u8 t.kind)).setCell ⟨b,1,none⟩ (.string t.text)).setCell ⟨b,2,none⟩ (.int .i64 t.int)).setCell ⟨b,3,none⟩ (.int .i64 t.place)
theorem tkStore_cells{w:World}{b:Nat}(t:Tok)(h:∀j,w.cell? ⟨b,j,none⟩=tkZero[j]?):(tkStore w b t).cell? ⟨b,0,none⟩=some (.int .u8 t.kind)∧(tkStore w b t).cell? ⟨b,1,none⟩=some (.string t.text)∧(tkStore w b t).cell? ⟨b,2,none⟩=some (.int .i64 t.int)∧(tkStore w b t).cell? ⟨b,3,none⟩=some (.int .i64 t.place):=by
 have h0:=h 0
 have h1:=h 1
 have h2:=h 2
 have h3:=h 3
 have ho:∀(X:World)(i k:Nat)(v:Value),i≠k→(X.setCell ⟨b,i,none⟩ v).cell? ⟨b,k,none⟩=X.cell? ⟨b,k,none⟩:=fun X i k v hne=>World.cell?_setCell_other _ _ _ _ (by first|(simp;done)|(simp;omega))
 unfold tkStore
 refine⟨?_,?_,?_,?_⟩
 ·rw[ho _ _ _ _ (by omega),ho _ _ _ _ (by omega),ho _ _ _ _ (by omega)];exact World.cell?_setCell_same _ _ _ h0
 ·rw[ho _ _ _ _ (by omega),ho _ _ _ _ (by omega)];exact World.cell?_setCell_same _ _ _ ((ho _ _ _ _ (by omega)).trans h1)
 ·rw[ho _ _ _ _ (by omega)];exact World.cell?_setCell_same _ _ _ (((ho _ _ _ _ (by omega)).trans (ho _ _ _ _ (by omega))).trans h2)
 ·exact World.cell?_setCell_same _ _ _ ((((ho _ _ _ _ (by omega)).trans (ho _ _ _ _ (by omega))).trans (ho _ _ _ _ (by omega))).trans h3)
set_option maxRecDepth 100000 in
set_option maxHeartbeats 1600000 in
theorem enter_rd{W0:World}{R op:Nat}{t t':Tok}{ts:List Tok}{w:World}(h:RdAt W0 R (t::t'::ts) op w)(ho:op<200):Calls Tryz.prog 64 #[rp R] w fun x w'=>x=.returned (tkVal t)∧RdAt W0 R (t'::ts) (op+1) w'∧KeepsB R w w':=by
 have h1:=h.opn
 have h2:=h.fr1
 have hR:=h.lt
 obtain⟨W1,hW1⟩:∃W1:World,W1=(w.setCell ⟨R,1,none⟩ (.int .i64 ((op:Int)+1))).alloc (.cells tkZero 72):=⟨_,rfl⟩
 have hs:(w.setCell ⟨R,1,none⟩ (.int .i64 ((op:Int)+1))).heap.size=w.heap.size:=by simp
 have hb:Below (w.setCell ⟨R,1,none⟩ (.int .i64 ((op:Int)+1))).heap.size (w.setCell ⟨R,1,none⟩ (.int .i64 ((op:Int)+1))) W1:=by rw[hW1];exact bal _
 have hrd:RdAt W0 R (t::t'::ts) (op+1) W1:=(h.opened (op+1) (by omega)).below hb
 have CT:=take_rd hrd
 have HK1:Hid (KeepsB R w W1):=(KeepsB.setCell _ _ _ _).trans (KeepsB.ofBelow hb)
 have HZ:Hid (∀j,W1.cell? ⟨w.heap.size,j,none⟩=tkZero[j]?):=fun j=>by rw[hW1];exact World.cell?_alloc_at _ _ _ _ hs.symm
 have HZf:Hid (∀j,W1.frozen? ⟨w.heap.size,j,none⟩=false):=fun j=>by rw[hW1];exact World.frozen?_alloc_at _ _ _ _ hs.symm
 have HS:Hid (w.heap.size<W1.heap.size∧w.heap.size≠R∧W0.heap.size≤w.heap.size):=⟨by rw[hW1];simp,by omega,h.keeps.size⟩
 have HW1:Hid ((w.setCell ⟨R,1,none⟩ (.int .i64 ((op:Int)+1))).alloc (.cells #[.int .u8 0,.string ⟨#[]⟩,.int .i64 0,.int .i64 0] 72)=W1):=hW1.symm
 have ho1:¬((op:Int)=200):=by omega
 have ho2:(op==200)=false:=beq_false_of_ne (by omega)
 have ho3:((op:Int)==200)=false:=beq_false_of_ne ho1
 have ho4:(op:Int)<200:=by omega
 clear h hb hrd hs hW1
 simp only[rp,tkVal,tkCells] at CT ⊢
 go_enter Tryz.func64,Tryz.ntmps64
 go_wp2_with fail
 rw[HW1.out]
 refine CT.mono ?_
 rintro x w2 ⟨rfl,hr,hk⟩
 obtain⟨hs1,hs2,hs3⟩:=HS.out
 have z:∀j,w2.cell? ⟨w.heap.size,j,none⟩=tkZero[j]?:=fun j=>(hk.cell hs1 hs2).1.trans (HZ.out j)
 have zf:∀j,w2.frozen? ⟨w.heap.size,j,none⟩=false:=fun j=>(hk.cell hs1 hs2).2.trans (HZf.out j)
 obtain⟨k0,k1,k2,k3⟩:=tkStore_cells t z
 obtain⟨W3,hW3⟩:∃W3,W3=tkStore w2 w.heap.size t:=⟨_,rfl⟩
 rw[←hW3] at k0 k1 k2 k3
 have hlt:w.heap.size<w2.heap.size:=Nat.lt_of_lt_of_le hs1 hk.size
 have HR:Hid (RdAt W0 R (t'::ts) (op+1) W3):=by rw[Hid,hW3];exact((((hr.other hs3).other hs3).other hs3).other hs3)
 have HK:Hid (KeepsB R w W3):=by rw[Hid,hW3];exact(((((HK1.out.trans hk).new (Nat.le_refl _)).new (Nat.le_refl _)).new (Nat.le_refl _)).new (Nat.le_refl _))
 have c0:w2.cell? ⟨w.heap.size,0,none⟩=some (.int .u8 0):=z 0
 have c1:w2.cell? ⟨w.heap.size,1,none⟩=some (.string ⟨#[]⟩):=z 1
 have c2:w2.cell? ⟨w.heap.size,2,none⟩=some (.int .i64 0):=z 2
 have c3:w2.cell? ⟨w.heap.size,3,none⟩=some (.int .i64 0):=z 3
 have f0:=zf 0
 have f1:=zf 1
 have f2:=zf 2
 have f3:=zf 3
 have HW3:Hid ((((w2.setCell ⟨w.heap.size,0,none⟩ (.int .u8 t.kind)).setCell ⟨w.heap.size,1,none⟩ (.string t.text)).setCell ⟨w.heap.size,2,none⟩ (.int .i64 t.int)).setCell ⟨w.heap.size,3,none⟩ (.int .i64 t.place)=W3):=hW3.symm
 clear CT hr hk z zf hW3 hs1
 go_wp2_with fail
 rw[HW3.out]
 refine bodyPost_ret (by simp[results,Tryz.results64,go_sem, *];try rfl) rfl ?_
 exact⟨rfl,HR.out,HK.out⟩
set_option maxRecDepth 100000 in
set_option maxHeartbeats 1600000 in
theorem noenter_rd{W0:World}{R:Nat}{t:Tok}{ts:List Tok}{w:World}(h:RdAt W0 R (t::ts) 200 w):Calls Tryz.prog 64 #[rp R] w fun x w'=>x=bad t 61∧Below w.heap.size w w':=by
 have h1:=h.opn
 have hR:=h.lt
 have hb:Below w.heap.size w (w.alloc (.cells tkZero 72)):=bal _
 have CW:=wrong_rd 61 (h.below hb)
 have HB:Hid _:=hb
 clear h hb
 simp only[rp,tkZero,badVal,bad] at CW HB ⊢
 go_enter Tryz.func64,Tryz.ntmps64
 go_wp2_with fail
 refine CW.mono ?_
 rintro x w2 ⟨rfl,hb2⟩
 have HB2:=hid (HB.out.trans (hb2.mono HB.out.size))
 clear CW hb2
 go_wp2_with fail
 exact⟨rfl,rfl,HB2.out⟩
end Go.Proofs.YthbgnpkgglbhjaaGreatDoor
