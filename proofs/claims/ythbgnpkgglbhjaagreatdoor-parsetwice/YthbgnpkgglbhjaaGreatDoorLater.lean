import Derived.Handy
import Derived.WalkSpells
import Derived.WalkSmall
namespace Go.Proofs.YthbgnpkgglbhjaaGreatDoor
open Go.RowKit
def later(w:World)(n:Nat)(os:Array Obj):World:={ w with drawn:=w.drawn+n,heap:=w.heap++os }
def Gr(w w':World):Prop:=∃n os,w'=later w n os
theorem later_heap_old(w:World)(n:Nat)(os:Array Obj){k:Nat}(h:k<w.heap.size):(later w n os).heap[k]?=w.heap[k]?:=by
 show(w.heap++os)[k]?=_
 rw[Array.getElem?_append,if_pos h]
theorem later_size(w:World)(n:Nat)(os:Array Obj):(later w n os).heap.size=w.heap.size+os.size:=by simp[later]
theorem later_cell(w:World)(n:Nat)(os:Array Obj)(k i:Nat)(h:k<w.heap.size):(later w n os).cell? ⟨k,i,none⟩=w.cell? ⟨k,i,none⟩:=by simp only[World.cell?,later_heap_old w n os h]
theorem later_frozen(w:World)(n:Nat)(os:Array Obj)(k i:Nat)(h:k<w.heap.size):(later w n os).frozen? ⟨k,i,none⟩=w.frozen? ⟨k,i,none⟩:=by simp only[World.frozen?,later_heap_old w n os h]
theorem later_setCell(w:World)(n:Nat)(os:Array Obj)(k i:Nat)(v:Value)(h:k<w.heap.size):(later w n os).setCell ⟨k,i,none⟩ v=later (w.setCell ⟨k,i,none⟩ v) n os:=by
 unfold World.setCell later
 congr 1
 apply Array.ext_getElem?
 intro j
 simp only[Array.getElem?_modify,Array.getElem?_append,Array.size_modify]
 by_cases hj:j<w.heap.size
 ·simp[hj]
 ·simp only[hj,if_false]
  rw[if_neg (by omega)]
theorem later_drew(w:World)(n:Nat)(os:Array Obj):(later w n os).drew=later w (n+1) os:=rfl
theorem later_drewN(w:World)(n m:Nat)(os:Array Obj):(later w n os).drewN m=later w (n+m) os:=by simp[later,World.drewN,Nat.add_assoc]
theorem later_tape(w:World)(n:Nat)(os:Array Obj):(later w n os).tape=w.tape:=rfl
theorem drewN_setCell(w:World)(n:Nat)(a:Addr)(v:Value):(w.drewN n).setCell a v=(w.setCell a v).drewN n:=rfl
theorem drewN_alloc(w:World)(n:Nat)(o:Obj):(w.drewN n).alloc o=(w.alloc o).drewN n:=rfl
theorem drewN_later(w:World)(n m:Nat)(os:Array Obj):later (w.drewN n) m os=later w (n+m) os:=by simp[later,World.drewN,Nat.add_assoc]
theorem later_later(w:World)(n m:Nat)(os os':Array Obj):later (later w n os) m os'=later w (n+m) (os++os'):=by simp[later,Nat.add_assoc,Array.append_assoc]
theorem lt_more{k a b:Nat}(h:k<a):k<a+b:=by omega
theorem lt_more1{k a b:Nat}(h:k<a):k<a+b+1:=by omega
theorem lt_more2{k a b:Nat}(h:k<a):k<a+b+1+1:=by omega
theorem lt_more3{k a b c:Nat}(h:k<a):k<a+b+1+c:=by omega
theorem lt_more4{k a b c:Nat}(h:k<a):k<a+b+1+c+1:=by omega
theorem lk0_0_1(w b:Nat):w<w+1+b:=by omega
theorem lk1_0_1(w b:Nat):w<w+1+b+1:=by omega
theorem lk2_0_1(w b:Nat):w<w+1+b+1+1:=by omega
theorem lk0_0_2(w b:Nat):w<w+1+1+b:=by omega
theorem lk1_0_2(w b:Nat):w<w+1+1+b+1:=by omega
theorem lk2_0_2(w b:Nat):w<w+1+1+b+1+1:=by omega
theorem lk0_1_2(w b:Nat):w+1<w+1+1+b:=by omega
theorem lk0_0_3(w b:Nat):w<w+1+1+1+b:=by omega
theorem lk1_0_3(w b:Nat):w<w+1+1+1+b+1:=by omega
theorem lk2_0_3(w b:Nat):w<w+1+1+1+b+1+1:=by omega
theorem lk0_1_3(w b:Nat):w+1<w+1+1+1+b:=by omega
theorem lk0_2_3(w b:Nat):w+1+1<w+1+1+1+b:=by omega
theorem lk0_0_4(w b:Nat):w<w+1+1+1+1+b:=by omega
theorem lk1_0_4(w b:Nat):w<w+1+1+1+1+b+1:=by omega
theorem lk2_0_4(w b:Nat):w<w+1+1+1+1+b+1+1:=by omega
theorem lk0_1_4(w b:Nat):w+1<w+1+1+1+1+b:=by omega
theorem lk0_2_4(w b:Nat):w+1+1<w+1+1+1+1+b:=by omega
theorem lk0_3_4(w b:Nat):w+1+1+1<w+1+1+1+1+b:=by omega
theorem lk0_0_5(w b:Nat):w<w+1+1+1+1+1+b:=by omega
theorem lk1_0_5(w b:Nat):w<w+1+1+1+1+1+b+1:=by omega
theorem lk2_0_5(w b:Nat):w<w+1+1+1+1+1+b+1+1:=by omega
theorem lk0_1_5(w b:Nat):w+1<w+1+1+1+1+1+b:=by omega
theorem lk0_2_5(w b:Nat):w+1+1<w+1+1+1+1+1+b:=by omega
theorem lk0_3_5(w b:Nat):w+1+1+1<w+1+1+1+1+1+b:=by omega
theorem lk0_4_5(w b:Nat):w+1+1+1+1<w+1+1+1+1+1+b:=by omega
theorem lk0_0_6(w b:Nat):w<w+1+1+1+1+1+1+b:=by omega
theorem lk1_0_6(w b:Nat):w<w+1+1+1+1+1+1+b+1:=by omega
theorem lk2_0_6(w b:Nat):w<w+1+1+1+1+1+1+b+1+1:=by omega
theorem lk0_1_6(w b:Nat):w+1<w+1+1+1+1+1+1+b:=by omega
theorem lk0_2_6(w b:Nat):w+1+1<w+1+1+1+1+1+1+b:=by omega
theorem lk0_3_6(w b:Nat):w+1+1+1<w+1+1+1+1+1+1+b:=by omega
theorem lk0_4_6(w b:Nat):w+1+1+1+1<w+1+1+1+1+1+1+b:=by omega
theorem lk0_5_6(w b:Nat):w+1+1+1+1+1<w+1+1+1+1+1+1+b:=by omega
theorem lk0_0_7(w b:Nat):w<w+1+1+1+1+1+1+1+b:=by omega
theorem lk1_0_7(w b:Nat):w<w+1+1+1+1+1+1+1+b+1:=by omega
theorem lk2_0_7(w b:Nat):w<w+1+1+1+1+1+1+1+b+1+1:=by omega
theorem lk0_1_7(w b:Nat):w+1<w+1+1+1+1+1+1+1+b:=by omega
theorem lk0_2_7(w b:Nat):w+1+1<w+1+1+1+1+1+1+1+b:=by omega
theorem lk0_3_7(w b:Nat):w+1+1+1<w+1+1+1+1+1+1+1+b:=by omega
theorem lk0_4_7(w b:Nat):w+1+1+1+1<w+1+1+1+1+1+1+1+b:=by omega
theorem lk0_5_7(w b:Nat):w+1+1+1+1+1<w+1+1+1+1+1+1+1+b:=by omega
theorem lk0_6_7(w b:Nat):w+1+1+1+1+1+1<w+1+1+1+1+1+1+1+b:=by omega
theorem Gr.refl(w:World):Gr w w:=⟨0,#[],by simp[later]⟩
theorem Gr.trans{a b c:World}(h:Gr a b)(k:Gr b c):Gr a c:=by
 obtain⟨n,os,rfl⟩:=h
 obtain⟨m,os',rfl⟩:=k
 exact⟨n+m,os++os',by simp[later,Nat.add_assoc,Array.append_assoc]⟩
theorem Gr.alloc{a b:World}(h:Gr a b)(o:Obj):Gr a (b.alloc o):=h.trans ⟨0,#[o],by
 show({ b with heap:=b.heap.push o }:World)=_
 unfold Go.Proofs.YthbgnpkgglbhjaaGreatDoor.later
 congr 1⟩
theorem Gr.drew{a b:World}(h:Gr a b):Gr a b.drew:=h.trans ⟨1,#[],by
 show({ b with drawn:=b.drawn+1 }:World)=_
 unfold Go.Proofs.YthbgnpkgglbhjaaGreatDoor.later
 congr 1⟩
theorem Gr.below{w w':World}(h:Gr w w'):Below w.heap.size w w':=by
 obtain⟨n,os,rfl⟩:=h
 exact⟨rfl,rfl,rfl,by rw[later_size];omega,fun k hk=>later_heap_old w n os hk⟩
theorem hid{p:Prop}(h:p):Hid p:=h
theorem nw{α:Type}(x:α):∃y,y=x:=⟨x,rfl⟩
theorem lC{α:Type}(a:α)(l:List α):(a::l).length=l.length+1:=rfl
theorem lN{α:Type}:([]:List α).length=0:=rfl
theorem bal{w:World}(o:Obj):Below w.heap.size w (w.alloc o):=(Below.refl _ _).alloc (Nat.le_refl _) o
end Go.Proofs.YthbgnpkgglbhjaaGreatDoor
