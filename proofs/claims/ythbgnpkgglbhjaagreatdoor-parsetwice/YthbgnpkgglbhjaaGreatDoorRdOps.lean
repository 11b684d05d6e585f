import Derived.Test.YthbgnpkgglbhjaaGreatDoorRdSpec
import Derived.Deep.AppendLies
import Derived.OwnWalk
import Derived.Laws.OwnMore
import Derived.Deep.RegionHeld3
import Derived.Deep.RegionLaw
import Derived.Deep.Cut
import Derived.Deep.DeepCutAuto
import Derived.LoopTactic
import Derived.Shelf.Abstract
namespace Go.Proofs.YthbgnpkgglbhjaaGreatDoor
open Go.RowKit
open Ex.size Ex.depth Ex.lies Ex.bulk Ex.good Ex.bare
def flatOf{α:Type}(f:α→List Value)(l:List α):List Value:=(l.map f).flatten
theorem flatOf_len{α:Type}{f:α→List Value}{z:Nat}(hf:∀x,(f x).length=z)(l:List α):(flatOf f l).length=l.length*z:=by
 induction l with
 | nil=>simp[flatOf]
 | cons q r ih=>simp only[flatOf,List.map_cons,List.flatten_cons,List.length_append,List.length_cons,hf,Nat.succ_mul] at *;omega
theorem flatOf_get{α:Type}{f:α→List Value}{z:Nat}(hf:∀x,(f x).length=z)(l:List α)(i:Nat)(h:i<l.length)(j:Nat)(hj:j<z):(flatOf f l)[i*z+j]?=(f l[i])[j]?:=by
 induction l generalizing i with
 | nil=>simp at h
 | cons q r ih =>
  have hq:=hf q
  cases i with
  | zero=>simp only[flatOf,List.map_cons,List.flatten_cons,Nat.zero_mul,Nat.zero_add,List.getElem_cons_zero];rw[List.getElem?_append_left (by omega)]
  | succ i =>
   have:=ih i (by simpa using h)
   simp only[flatOf,List.map_cons,List.flatten_cons,List.getElem_cons_succ] at *
   rw[List.getElem?_append_right (by rw[Nat.succ_mul];omega),hq,show(i+1)*z+j-z=i*z+j by rw[Nat.succ_mul];omega]
   exact this
theorem flatOf_snoc{α:Type}{f:α→List Value}(l:List α)(q:α):flatOf f (l++[q])=flatOf f l++f q:=by simp[flatOf]
structure Elt(α β:Type) where
 cells:β→List Value
 z:Nat
 len:∀x,(cells x).length=z
 view:β→α
 lies:(Nat→Prop)→World→β→Prop
 keep:∀{Q:Nat→Prop}{w w':World}{x:β},lies Q w x→KeepsQ Q w w'→lies Q w' x
 mono:∀{Q Q':Nat→Prop}{w:World}{x:β},lies Q w x→(∀k,k<w.heap.size→Q k→Q' k)→lies Q' w x
def eltE:Elt Ex Ex:=⟨Ex.cells,6,fun x=>by cases x;rfl,Ex.bare,fun Q w x=>Lies Q w x∧x.good,fun h k=>⟨h.1.keep k,h.2⟩,fun h k=>⟨h.1.mono k,h.2⟩⟩
def eltS:Elt ByteArray ByteArray:=⟨fun s=>[.string s],1,fun _=>rfl,fun s=>s,fun _ _ s=>s.size≤1000000,fun h _=>h,fun h _=>h⟩
def IsRow{α β:Type}(K:Elt α β)(base:Nat)(w:World)(l:List α)(v:Value):Prop:=∃(xs:List β)(g cap:Nat),xs.map K.view=l∧v=.slice (some ⟨g,0,none⟩) xs.length cap∧xs.length≤cap∧cap≤maxLen∧xs.length≤100001∧base≤g∧g<w.heap.size∧(∀i (h:i<xs.length) j,j<K.z→w.cell? ⟨g,i*K.z+j,none⟩=(K.cells xs[i])[j]?)∧∀x∈xs,K.lies (fun k=>base≤k) w x
structure InL{α β:Type}(K:Elt α β)(R base:Nat)(e:TypeId)(w:World)(xs:List β)(v:Value)(wr:World):Prop where
 keeps:KeepsB R w wr
 own:wr.ownsRow base e K.z v xs.length (flatOf K.cells xs)
 lie:∀x∈xs,K.lies (fun k=>base≤k∧some k≠v.ownBlock) wr x
theorem own_keepB{R base z n:Nat}{e:TypeId}{w w':World}{v:Value}{xs:List Value}(h:w.ownsRow base e z v n xs)(hk:KeepsB R w w')(hR:R<base):w'.ownsRow base e z v n xs:=by
 refine⟨h.1,?_⟩
 rcases h.2 with h|⟨g,cap,cur,rfl,h1,h2,r⟩
 ·exact .inl h
 ·exact .inr ⟨g,cap,cur,rfl,h1,(hk.block g (lt_of_block h2) (by omega)).trans h2,r⟩
theorem InL.keep{α β:Type}{K:Elt α β}{R base:Nat}{e:TypeId}{w w1 w2:World}{xs:List β}{v:Value}(h:InL K R base e w xs v w1)(hk:KeepsB R w1 w2)(hR:R<base):InL K R base e w xs v w2 :=
 ⟨h.keeps.trans hk,own_keepB h.own hk hR,fun x hx=>K.keep (h.lie x hx) (KeepsQ.ofB hk fun hq=>by have:=hq.1;omega)⟩
theorem InL.first{α β:Type}{K:Elt α β}{R base:Nat}{e:TypeId}{w w1:World}{x:β}(hk:KeepsB R w w1)(hb:base≤w1.heap.size)(hl:K.lies (fun k=>base≤k) w1 x):InL K R base e w [x] (.slice (some ⟨w1.heap.size,0,none⟩) 1 1) (w1.alloc (.cells (K.cells x).toArray e)):=by
 have hb1:Below w1.heap.size w1 (w1.alloc (.cells (K.cells x).toArray e)):=bal _
 refine⟨hk.trans (KeepsB.ofBelow hb1),⟨?_,Or.inr ⟨_,1,(K.cells x).toArray,rfl,hb,?_,Nat.le_refl _,by unfold maxLen;omega,?_,?_⟩⟩,fun y hy=>?_⟩
 ·rw[flatOf_len K.len]
 ·exact heap_alloc_new _ _
 ·simp[K.len]
 ·simp only[flatOf,List.map_cons,List.map_nil,List.flatten_cons,List.flatten_nil,List.append_nil];exact List.take_of_length_le (by rw[K.len];simp)
 ·rw[List.mem_singleton] at hy
  subst hy
  refine K.keep (K.mono hl fun k h1 h2=>⟨h2,fun he=>?_⟩) (KeepsQ.ofBelow hb1)
  have:k=w1.heap.size:=by simpa [Value.ownBlock] using he
  omega
theorem InL.more{α β:Type}{K:Elt α β}{R base:Nat}{e:TypeId}{w w3 w5:World}{xs:List β}{v:Value}{o:Obj}(h:InL K R base e w xs v w3)(x:β)(hx:K.lies (fun k=>base≤k∧some k≠v.ownBlock) w3 x)(hR:R<base)(hw:w.heap.size≤base)(hb3:base≤w3.heap.size)(g cap:Nat)(hown:w5.ownsRow base e K.z (.slice (some ⟨g,0,none⟩) (xs.length+1) cap) (xs.length+1) (flatOf K.cells xs++K.cells x))(hgr:(w3.alloc o).grownBy w5 v.ownBlock)(hat:v.ownBlock=some g∨g=(w3.alloc o).heap.size) :
  InL K R base e w (xs++[x]) (.slice (some ⟨g,0,none⟩) (xs.length+1) cap) w5∧w3.heap.size≤w5.heap.size∧KeepsB R w w5∧w5.heap[R]?=w3.heap[R]?:=by
 have h4s:(w3.alloc o).heap.size=w3.heap.size+1:=by simp
 have hb4:∀k,k<w3.heap.size→(w3.alloc o).heap[k]?=w3.heap[k]?:=fun k hk=>Below.heap_alloc _ _ _ hk
 have hvo:∀k,v.ownBlock=some k→base≤k∧k<w3.heap.size:=fun k hk=>h.own.lt k hk
 have hb5:∀k,k<w3.heap.size→some k≠v.ownBlock→w5.heap[k]?=w3.heap[k]?:=fun k hk hne=>(hgr.block k (by omega) hne).trans (hb4 k hk)
 have s5:w3.heap.size≤w5.heap.size:=by have:=hgr.size;omega
 have free:∀b,b<w3.heap.size→(base≤b∧some b≠v.ownBlock)→(base≤b∧some b≠(Value.slice (some ⟨g,0,none⟩) (xs.length+1) cap).ownBlock):=fun b hlt ⟨f1,f2⟩=>⟨f1,fun he=>by
  have e':b=g:=Option.some.inj he
  rcases hat with h1|h1
  ·exact f2 (by rw[h1,e'])
  ·omega⟩
 have hK:KeepsB R w w5:=⟨hgr.os.trans h.keeps.os,hgr.tape.trans h.keeps.tape,hgr.output.trans h.keeps.output,Nat.le_trans h.keeps.size s5,fun k hk hne=>(hb5 k (Nat.lt_of_lt_of_le hk h.keeps.size) fun he=>by have:=(hvo k he.symm).1;omega).trans (h.keeps.block k hk hne)⟩
 have hlie:∀y,K.lies (fun k=>base≤k∧some k≠v.ownBlock) w3 y→K.lies (fun k=>base≤k∧some k≠(Value.slice (some ⟨g,0,none⟩) (xs.length+1) cap).ownBlock) w5 y:=fun y hy=>by
  have h1:K.lies (fun k=>(base≤k∧some k≠v.ownBlock)∧(base≤k∧some k≠(Value.slice (some ⟨g,0,none⟩) (xs.length+1) cap).ownBlock)) w3 y:=K.mono hy fun k hk hq=>⟨hq,free k hk hq⟩
  exact K.mono (K.keep h1 ⟨s5,fun k hq hk=>hb5 k hk hq.1.2⟩) fun k _ hq=>hq.2
 have hg2:base≤g:=by
  rcases hat with h1|h1
  ·exact(hvo g h1).1
  ·omega
 refine⟨⟨hK,?_,fun y hy=>?_⟩,s5,hK,?_⟩
 ·rw[flatOf_snoc,List.length_append]
  exact hown
 ·rw[List.mem_append,List.mem_singleton] at hy
  rcases hy with hy|rfl
  ·exact hlie y (h.lie y hy)
  ·exact hlie y hx
 ·exact hb5 R (by omega) fun he=>by have:=(hvo R he.symm).1;omega
theorem InL.done{α β:Type}{K:Elt α β}{R base:Nat}{e:TypeId}{w wr:World}{xs:List β}{v:Value}(h:InL K R base e w xs v wr)(hne:0<xs.length)(hf:xs.length≤100001):IsRow K base wr (xs.map K.view) v:=by
 rcases h.own.2 with⟨_,h0⟩|⟨g,cap,cur,rfl,h1,h2,h3,h4,_⟩
 ·omega
 ·refine⟨xs,g,cap,rfl,rfl,h3,h4,hf,h1,lt_of_block h2,fun i hi j hj=>?_,fun x hx=>K.mono (h.lie x hx) fun k _ hq=>hq.1⟩
  have:i*K.z+j<xs.length*K.z:=by
   have:(i+1)*K.z≤xs.length*K.z:=Nat.mul_le_mul_right _ hi
   rw[Nat.succ_mul] at this
   omega
  rw[h.own.cellAt _ this]
  exact flatOf_get K.len xs i hi j hj
theorem InL.form{α β:Type}{K:Elt α β}{R base:Nat}{e:TypeId}{w wr:World}{xs:List β}{v:Value}(h:InL K R base e w xs v wr):∃a c,v=.slice a xs.length c:=by
 rcases h.own.2 with⟨h1,h2⟩|⟨g,cap,cur,rfl,_⟩
 ·exact⟨none,0,by rw[h1,h2]⟩
 ·exact⟨_,cap,rfl⟩
theorem IsRow.keep{α β:Type}{K:Elt α β}{base:Nat}{w w':World}{l:List α}{v:Value}(h:IsRow K base w l v)(hk:KeepsQ (fun k=>base≤k) w w'):IsRow K base w' l v:=by
 obtain⟨xs,g,cap,h1,h2,h3,h4,h4',h5,h6,h7,h8⟩:=h
 exact⟨xs,g,cap,h1,h2,h3,h4,h4',h5,Nat.lt_of_lt_of_le h6 hk.1,fun i hi j hj=>(World.cell?_of_block (hk.2 g h5 h6)).trans (h7 i hi j hj),fun x hx=>K.keep (h8 x hx) hk⟩
theorem RdAt.same{W0:World}{R op:Nat}{ts:List Tok}{w w':World}(h:RdAt W0 R ts op w)(hk:KeepsB R W0 w')(hR:w'.heap[R]?=w.heap[R]?):RdAt W0 R ts op w':=by
 obtain⟨_,⟨g,o,cap,h1,h2⟩,h4,⟨mb,h5,h5'⟩,h6,h7,h8,h10⟩:=h
 exact⟨hk,⟨g,o,cap,(World.cell?_of_block (a:=⟨R,0,none⟩) hR).trans h1,h2⟩,(World.cell?_of_block (a:=⟨R,1,none⟩) hR).trans h4,⟨mb,(World.cell?_of_block (a:=⟨R,2,none⟩) hR).trans h5,h5'⟩,(World.frozen?_of_block (a:=⟨R,0,none⟩) hR).trans h6,(World.frozen?_of_block (a:=⟨R,1,none⟩) hR).trans h7,h8,h10⟩
theorem news_at(w:World)(cs:List Value)(t:TypeId):∀j u,cs[j]?=some u→(w.alloc (.cells cs.toArray t)).cell? ((⟨w.heap.size,0,none⟩:Addr).add j)=some u:=fun j u hj=>by
 rw[←hj]
 have:(⟨w.heap.size,0,none⟩:Addr).add j=⟨w.heap.size,j,none⟩:=by unfold Addr.add;split<;>simp_all
 rw[this]
 exact(World.cell?_alloc_at _ _ _ _ rfl).trans (by simp)
end Go.Proofs.YthbgnpkgglbhjaaGreatDoor
namespace Go.Proofs.YthbgnpkgglbhjaaGreatDoor
open Go.RowKit
def Blk(w:World)(b:Nat)(l:List Value):Prop:=(∀j,j<l.length→w.cell? ⟨b,j,none⟩=l[j]?)∧(∀j,w.frozen? ⟨b,j,none⟩=false)∧b<w.heap.size
theorem Blk.made(w:World)(l:List Value)(t:TypeId):Blk (w.alloc (.cells l.toArray t)) w.heap.size l:=⟨fun j _=>(World.cell?_alloc_at _ _ _ _ rfl).trans (by simp),fun _=>World.frozen?_alloc_at _ _ _ _ rfl,by simp⟩
theorem Blk.keep{R b:Nat}{l:List Value}{w w':World}(h:Blk w b l)(hk:KeepsB R w w')(hR:b≠R):Blk w' b l:=⟨fun j hj=>(hk.cell h.2.2 hR).1.trans (h.1 j hj),fun j=>(hk.cell h.2.2 hR).2.trans (h.2.1 j),Nat.lt_of_lt_of_le h.2.2 hk.size⟩
theorem Blk.block{b:Nat}{l:List Value}{w w':World}(h:Blk w b l)(hk:w'.heap[b]?=w.heap[b]?)(hs:w.heap.size≤w'.heap.size):Blk w' b l:=⟨fun j hj=>(World.cell?_of_block (a:=⟨b,j,none⟩) hk).trans (h.1 j hj),fun j=>(World.frozen?_of_block (a:=⟨b,j,none⟩) hk).trans (h.2.1 j),Nat.lt_of_lt_of_le h.2.2 hs⟩
theorem Blk.set{b i:Nat}{l:List Value}{w:World}(h:Blk w b l)(hi:i<l.length)(v:Value):Blk (w.setCell ⟨b,i,none⟩ v) b (l.set i v):=by
 refine⟨fun j hj=>?_,fun j=>by simpa using h.2.1 j,by simpa using h.2.2⟩
 rw[List.length_set] at hj
 by_cases e:i=j
 ·subst e
  rw[List.getElem?_set_self hi]
  exact World.cell?_setCell_same _ _ _ ((h.1 i hi).trans (List.getElem?_eq_getElem hi))
 ·rw[List.getElem?_set_ne e,World.cell?_setCell_other _ _ _ _ (by first|(simp;done)|(simp;omega))]
  exact h.1 j hj
theorem Blk.other{b c i:Nat}{l:List Value}{w:World}(h:Blk w b l)(hc:b≠c)(v:Value):Blk (w.setCell ⟨c,i,none⟩ v) b l:=h.block (Below.heap_setCell _ _ _ _ hc) (by simp)
theorem Blk.get{b:Nat}{l:List Value}{w:World}(h:Blk w b l)(i:Nat){v:Value}(hv:l[i]?=some v):w.cell? ⟨b,i,none⟩=some v:=(h.1 i (List.getElem?_eq_some_iff.1 hv).1).trans hv
def setFrom(w:World)(b:Nat):Nat→List Value→World
 | _,[]=>w
 | i,v::r=>setFrom (w.setCell ⟨b,i,none⟩ v) b (i+1) r
theorem setFrom_size(b:Nat):∀(l:List Value)(i:Nat)(w:World),(setFrom w b i l).heap.size=w.heap.size
 | [],_,_=>rfl
 | v::r,i,w=>by rw[setFrom,setFrom_size b r];simp
theorem setFrom_other(b k:Nat)(h:k≠b):∀(l:List Value)(i:Nat)(w:World),(setFrom w b i l).heap[k]?=w.heap[k]?
 | [],_,_=>rfl
 | v::r,i,w=>by rw[setFrom,setFrom_other b k h r,Below.heap_setCell _ _ _ _ h]
theorem setFrom_blk(b:Nat):∀(m l:List Value)(w:World),Blk w b (l++m)→∀r:List Value,r.length=m.length→Blk (setFrom w b l.length r) b (l++r)
 | [],l,w,h,r,hr=>by
  have:r=[]:=List.eq_nil_of_length_eq_zero hr
  subst this
  exact h
 | x::m,l,w,h,r,hr=>by
  cases r with
  | nil=>simp at hr
  | cons v r =>
   have h1:Blk (w.setCell ⟨b,l.length,none⟩ v) b ((l++[v])++m):=by
    have:=h.set (i:=l.length) (by simp) v
    rw[List.set_append_right _ _ (Nat.le_refl _),Nat.sub_self] at this
    simpa using this
   have h2:=setFrom_blk b m (l++[v]) _ h1 r (by simpa using hr)
   rw[List.length_append,List.length_singleton] at h2
   simpa [setFrom] using h2
theorem Blk.all{b:Nat}{l:List Value}{w:World}(h:Blk w b l)(r:List Value)(hr:r.length=l.length):Blk (setFrom w b 0 r) b r:=setFrom_blk b l [] w h r hr
theorem setFrom_keepsB{R b:Nat}{w w2:World}(h:KeepsB R w w2)(hb:w.heap.size≤b):∀(l:List Value)(i:Nat),KeepsB R w (setFrom w2 b i l)
 | l,i=>⟨(os l i w2).trans h.os,(tp l i w2).trans h.tape,(ou l i w2).trans h.output,by rw[setFrom_size];exact h.size,fun k hk hne=>(setFrom_other b k (by omega) l i w2).trans (h.block k hk hne)⟩
where
 os:∀(l:List Value)(i:Nat)(w:World),(setFrom w b i l).os=w.os
  | [],_,_=>rfl
  | v::r,i,w=>by rw[setFrom,os r];rfl
 tp:∀(l:List Value)(i:Nat)(w:World),(setFrom w b i l).tape=w.tape
  | [],_,_=>rfl
  | v::r,i,w=>by rw[setFrom,tp r];rfl
 ou:∀(l:List Value)(i:Nat)(w:World),(setFrom w b i l).output=w.output
  | [],_,_=>rfl
  | v::r,i,w=>by rw[setFrom,ou r];rfl
theorem setFrom_rd{W0:World}{R op b:Nat}{ts:List Tok}{w:World}(h:RdAt W0 R ts op w)(hb:W0.heap.size≤b)(l:List Value)(i:Nat):RdAt W0 R ts op (setFrom w b i l):=h.same (setFrom_keepsB h.keeps hb l i) (setFrom_other b R (by have:=h.lt0;omega) l i w)
theorem setFrom_keepsQ{Q:Nat→Prop}{b:Nat}{w:World}(hb:¬Q b)(l:List Value)(i:Nat):KeepsQ Q w (setFrom w b i l):=⟨by rw[setFrom_size];exact Nat.le_refl _,fun k hk _=>setFrom_other b k (fun e=>hb (e▸hk)) l i w⟩
open Ex.size Ex.depth Ex.lies Ex.bulk Ex.good Ex.bare
theorem sg_f0(a b:Int)(w:World):(Instr.field 157 (.agg #[.int .u8 a,.int .u8 b]) 0).run Tryz.prog w=.ok (.int .u8 a) w:=by kernel_rfl
theorem sg_f1(a b:Int)(w:World):(Instr.field 157 (.agg #[.int .u8 a,.int .u8 b]) 1).run Tryz.prog w=.ok (.int .u8 b) w:=by kernel_rfl
attribute [local go_sem] tk_f0 tk_f1 tk_f2 tk_f3 sg_f0 sg_f1
set_option maxRecDepth 100000 in
set_option maxHeartbeats 1600000 in
theorem between_rd{W0:World}{R op:Nat}{t:Tok}{ts:List Tok}{w:World}(rule:Int)(h:RdAt W0 R (t::ts) op w)(hf:t.fine):Calls Tryz.prog 101 #[rp R,.int .u8 rule] w fun x w'=>x=.returned (.tuple #[.int .u8 ((sgn rule (t::ts)).getD 0),.bool (sgn rule (t::ts)).isSome])∧Below w.heap.size w w':=by
 have HN:Hid (∀W,Below w.heap.size w W→Calls Tryz.prog 54 #[rp R] W fun x w'=>x=.returned (tkVal t)∧Below W.heap.size W w'):=fun W hb=>next_rd (h.below hb)
 have HH:Hid (∀w',Below w.heap.size w w'→∃mb,w'.cell? ⟨R,2,none⟩=some (.map (some mb))∧HasSigns w' mb):=fun w' hb=>by
  obtain⟨mb,h1,h2,h3⟩:=(h.below hb).map
  exact⟨mb,h1,h2.keep ((h.below hb).keeps.block _ h2.lt h3)⟩
 have hR:=h.lt
 have hfs:t.text.size≤maxLen:=Nat.le_trans hf.1 (by decide)
 have HSG:Hid (sgn rule (t::ts)=match sgOf t.text.data.toList with
   | some (r,k)=>if r=rule then some k else none
   | none=>none):=rfl
 generalize sgn rule (t::ts)=o at HSG ⊢
 clear h hf
 obtain⟨mb,k0,-⟩:=HH.out w (Below.refl _ _)
 have HMB:Hid (∀w',Below w.heap.size w w'→w'.cell? ⟨R,2,none⟩=some (.map (some mb))∧HasSigns w' mb):=fun w' hb=>by
  have k1:=(hb.cell (p:=⟨R,2,none⟩) hR).trans k0
  obtain⟨mb',h1,h2⟩:=HH.out w' hb
  have e:mb'=mb:=by
   have:=h1.symm.trans k1
   simpa using this
  exact⟨k1,e▸h2⟩
 clear HH
 simp only[rp,tkVal,tkCells] at HN ⊢
 go_enter Tryz.func101,Tryz.ntmps101
 go_wp2_with fail
 have HZ:Hid (Below w.heap.size w (w.alloc (.cells #[.int .u8 0,.int .u8 0] 157)).drew):=by
  have hX:Below w.heap.size w (w.alloc (.cells #[.int .u8 0,.int .u8 0] 157)):=bal _
  exact⟨hX.os,hX.tape,hX.output,hX.size,hX.block⟩
 have HZs:Hid ((w.alloc (.cells #[.int .u8 0,.int .u8 0] 157)).drew.heap.size=w.heap.size+1):=by
  show(w.alloc (.cells #[.int .u8 0,.int .u8 0] 157)).heap.size=_
  simp
 have HZc:Hid (∀j,(w.alloc (.cells #[.int .u8 0,.int .u8 0] 157)).drew.cell? ⟨w.heap.size,j,none⟩=(#[.int .u8 0,.int .u8 0]:Array Value)[j]?∧(w.alloc (.cells #[.int .u8 0,.int .u8 0] 157)).drew.frozen? ⟨w.heap.size,j,none⟩=false):=fun j=>⟨World.cell?_alloc_at _ _ _ _ rfl,World.frozen?_alloc_at _ _ _ _ rfl⟩
 have HZk:Hid (∀w1,Below (w.alloc (.cells #[.int .u8 0,.int .u8 0] 157)).drew.heap.size (w.alloc (.cells #[.int .u8 0,.int .u8 0] 157)).drew w1→Below w.heap.size w w1∧w1.cell? ⟨w.heap.size,0,none⟩=some (.int .u8 0)∧w1.cell? ⟨w.heap.size,1,none⟩=some (.int .u8 0)∧w1.frozen? ⟨w.heap.size,0,none⟩=false∧w1.frozen? ⟨w.heap.size,1,none⟩=false∧w.heap.size+1≤w1.heap.size):=fun w1 hb=>by
  have hbz:w.heap.size<(w.alloc (.cells #[.int .u8 0,.int .u8 0] 157)).drew.heap.size:=by rw[HZs.out];omega
  have c0:(w.alloc (.cells #[.int .u8 0,.int .u8 0] 157)).drew.cell? ⟨w.heap.size,0,none⟩=some (.int .u8 0):=(HZc.out 0).1
  have c1:(w.alloc (.cells #[.int .u8 0,.int .u8 0] 157)).drew.cell? ⟨w.heap.size,1,none⟩=some (.int .u8 0):=(HZc.out 1).1
  exact⟨HZ.out.trans (hb.mono (by have:=HZs.out;omega)),(hb.cell (p:=⟨w.heap.size,0,none⟩) hbz).trans c0,(hb.cell (p:=⟨w.heap.size,1,none⟩) hbz).trans c1,(hb.frozen (p:=⟨w.heap.size,0,none⟩) hbz).trans (HZc.out 0).2,(hb.frozen (p:=⟨w.heap.size,1,none⟩) hbz).trans (HZc.out 1).2,by have:=hb.size;rw[HZs.out] at this;exact this⟩
 go_cut [6,7] (fun p q wc=>∃(b:Nat)(x y:Int),p=.pointer (some ⟨b,0,none⟩)∧q=.bool (sgOf t.text.data.toList).isSome∧wc.cell? ⟨b,0,none⟩=some (.int .u8 x)∧wc.cell? ⟨b,1,none⟩=some (.int .u8 y)∧Hid (∀r k,sgOf t.text.data.toList=some (r,k)→x=r∧y=k)∧Hid (Below w.heap.size w wc))
 case first =>
  go_region_law (go_simp;(go_wp2_with (go_at_call 54;first
   | (refine(HN.out w.drew ⟨rfl,rfl,rfl,Nat.le_refl _,fun _ _=>rfl⟩).mono ?_;rintro r w1 ⟨rfl,hb⟩;have HB:Hid (Below w.heap.size w w1):=⟨hb.os,hb.tape,hb.output,hb.size,hb.block⟩;obtain⟨k1,hm1⟩:=HMB.out w1 HB.out;obtain⟨va,vb,hl,hv⟩:=hm1.look t.text hfs;have hb2:=HB.out.alloc HB.out.size (.cells #[.int .u8 0,.int .u8 0] 157);obtain⟨va2,vb2,hl2,hv2⟩:=(HMB.out _ hb2).2.look t.text hfs;have HV:Hid _:=hv;have HV2:Hid _:=hv2;have hsz:w.heap.size≤w1.heap.size:=HB.out.size;have hR1:R<w1.heap.size:=Nat.lt_of_lt_of_le hR hsz;clear hb hm1 hv hv2 hb2)
   | (refine(HN.out (w.alloc (.cells #[.int .u8 0,.int .u8 0] 157)).drew HZ.out).mono ?_;rintro r w1 ⟨rfl,hb⟩;obtain⟨hB,z0,z1,z2,z3,hsz⟩:=HZk.out w1 hb;have HB:Hid (Below w.heap.size w w1):=hB;obtain⟨k1,hm1⟩:=HMB.out w1 hB;obtain⟨va,vb,hl,hv⟩:=hm1.look t.text hfs;have HV:Hid _:=hv;have hR1:R<w1.heap.size:=Nat.lt_of_lt_of_le hR (Nat.le_of_succ_le hsz);clear hb hm1 hv hB))))
  all_goals go_wp2_with fail
  all_goals go_meet
  all_goals first
   | exact⟨_,va,vb,rfl,rfl,(World.cell?_alloc_at _ _ _ _ rfl).trans rfl,(World.cell?_alloc_at _ _ _ _ rfl).trans rfl,HV,HB.out.alloc HB.out.size _⟩
   | exact⟨_,va2,vb2,rfl,rfl,(World.cell?_alloc_at _ _ _ _ rfl).trans rfl,(World.cell?_alloc_at _ _ _ _ rfl).trans rfl,HV2,HB.out.alloc HB.out.size _⟩
   | exact⟨_,va,vb,rfl,rfl,(World.cell?_setCell_other _ _ _ _ (by simp)).trans (World.cell?_setCell_same _ _ _ z0),World.cell?_setCell_same _ _ _ ((World.cell?_setCell_other _ _ _ _ (by simp)).trans z1),HV,(HB.out.setCell (p:=⟨w.heap.size,0,none⟩) (Nat.le_refl _) _).setCell (p:=⟨w.heap.size,1,none⟩) (Nat.le_refl _) _⟩
 case rest =>
  obtain⟨b,x,y,rfl,rfl,c0,c1,HX,HBc⟩:=hcut
  cases hs:sgOf t.text.data.toList with
  | none =>
   have ho:o=none:=HSG.out.trans (by rw[hs])
   subst ho
   clear hs HX HSG
   simp only[Option.isSome_none]
   go_wp2_with fail
   go_ret2
   exact⟨rfl,HBc.out⟩
  | some q =>
   obtain⟨r,k⟩:=q
   obtain⟨rfl,rfl⟩:=HX.out r k hs
   by_cases hr:x=rule
   ·have ho:o=some y:=HSG.out.trans (by rw[hs];exact if_pos hr)
    subst ho hr
    clear hs HX HSG
    simp only[Option.isSome_some]
    go_wp2_with fail
    go_ret2
    exact⟨rfl,HBc.out⟩
   ·have hr2:=beq_false_of_ne hr
    have ho:o=none:=HSG.out.trans (by rw[hs];exact if_neg hr)
    subst ho
    clear hs HX HSG
    simp only[Option.isSome_some]
    go_wp2_with fail
    go_ret2
    exact⟨rfl,HBc.out⟩
end Go.Proofs.YthbgnpkgglbhjaaGreatDoor
namespace Go.Proofs.YthbgnpkgglbhjaaGreatDoor
open Go.RowKit
open Ex.size Ex.depth Ex.lies Ex.bulk Ex.good Ex.bare
def set6(W:World)(q:Nat)(v0 v1 v2 v3 v4 v5:Value):World:=(((((W.setCell ⟨q,0,none⟩ v0).setCell ⟨q,1,none⟩ v1).setCell ⟨q,2,none⟩ v2).setCell ⟨q,3,none⟩ v3).setCell ⟨q,4,none⟩ v4).setCell ⟨q,5,none⟩ v5
theorem set6_other(W:World)(q:Nat)(v0 v1 v2 v3 v4 v5:Value)(k:Nat)(h:k≠q):(set6 W q v0 v1 v2 v3 v4 v5).heap[k]?=W.heap[k]?:=by
 unfold set6
 rw[Below.heap_setCell _ _ _ _ h,Below.heap_setCell _ _ _ _ h,Below.heap_setCell _ _ _ _ h,Below.heap_setCell _ _ _ _ h,Below.heap_setCell _ _ _ _ h,Below.heap_setCell _ _ _ _ h]
theorem set6_size(W:World)(q:Nat)(v0 v1 v2 v3 v4 v5:Value):(set6 W q v0 v1 v2 v3 v4 v5).heap.size=W.heap.size:=by
 unfold set6
 simp
theorem set6_cell{W:World}{q:Nat}{l:List Value}(hl:l.length=6)(h:∀j,j<6→W.cell? ⟨q,j,none⟩=l[j]?)(v0 v1 v2 v3 v4 v5:Value):∀j,j<6→(set6 W q v0 v1 v2 v3 v4 v5).cell? ⟨q,j,none⟩=[v0,v1,v2,v3,v4,v5][j]?:=by
 have g:∀j,j<6→∃o,W.cell? ⟨q,j,none⟩=some o:=fun j hj=>⟨_,(h j hj).trans (List.getElem?_eq_getElem (by omega))⟩
 obtain⟨o0,g0⟩:=g 0 (by omega)
 obtain⟨o1,g1⟩:=g 1 (by omega)
 obtain⟨o2,g2⟩:=g 2 (by omega)
 obtain⟨o3,g3⟩:=g 3 (by omega)
 obtain⟨o4,g4⟩:=g 4 (by omega)
 obtain⟨o5,g5⟩:=g 5 (by omega)
 intro j hj
 have ho:∀(X:World)(i k:Nat)(v:Value),i≠k→(X.setCell ⟨q,i,none⟩ v).cell? ⟨q,k,none⟩=X.cell? ⟨q,k,none⟩:=fun X i k v hne=>World.cell?_setCell_other _ _ _ _ (by first|(simp;done)|(simp;omega))
 unfold set6
 match j,hj with
 | 0,_=>rw[ho _ _ _ _ (by omega),ho _ _ _ _ (by omega),ho _ _ _ _ (by omega),ho _ _ _ _ (by omega),ho _ _ _ _ (by omega)];exact World.cell?_setCell_same _ _ _ g0
 | 1,_=>rw[ho _ _ _ _ (by omega),ho _ _ _ _ (by omega),ho _ _ _ _ (by omega),ho _ _ _ _ (by omega)];exact World.cell?_setCell_same _ _ _ (by rw[ho _ _ _ _ (by omega)];exact g1)
 | 2,_=>rw[ho _ _ _ _ (by omega),ho _ _ _ _ (by omega),ho _ _ _ _ (by omega)];exact World.cell?_setCell_same _ _ _ (by rw[ho _ _ _ _ (by omega),ho _ _ _ _ (by omega)];exact g2)
 | 3,_=>rw[ho _ _ _ _ (by omega),ho _ _ _ _ (by omega)];exact World.cell?_setCell_same _ _ _ (by rw[ho _ _ _ _ (by omega),ho _ _ _ _ (by omega),ho _ _ _ _ (by omega)];exact g3)
 | 4,_=>rw[ho _ _ _ _ (by omega)];exact World.cell?_setCell_same _ _ _ (by rw[ho _ _ _ _ (by omega),ho _ _ _ _ (by omega),ho _ _ _ _ (by omega),ho _ _ _ _ (by omega)];exact g4)
 | 5,_=>exact World.cell?_setCell_same _ _ _ (by rw[ho _ _ _ _ (by omega),ho _ _ _ _ (by omega),ho _ _ _ _ (by omega),ho _ _ _ _ (by omega),ho _ _ _ _ (by omega)];exact g5)
theorem set6_frozen(W:World)(q:Nat)(v0 v1 v2 v3 v4 v5:Value)(p:Addr):(set6 W q v0 v1 v2 v3 v4 v5).frozen? p=W.frozen? p:=by
 unfold set6
 simp
theorem set6_keepsB{R b:Nat}{w w2:World}(h:KeepsB R w w2)(hb:w.heap.size≤b)(v0 v1 v2 v3 v4 v5:Value):KeepsB R w (set6 w2 b v0 v1 v2 v3 v4 v5):=(((((h.new hb).new hb).new hb).new hb).new hb).new hb
theorem set6_rd{W0:World}{R op b:Nat}{ts:List Tok}{w:World}(h:RdAt W0 R ts op w)(hb:W0.heap.size≤b)(v0 v1 v2 v3 v4 v5:Value):RdAt W0 R ts op (set6 w b v0 v1 v2 v3 v4 v5):=(((((h.other hb).other hb).other hb).other hb).other hb).other hb
theorem set6_keepsQ{Q:Nat→Prop}{b:Nat}{w:World}(hb:¬Q b)(v0 v1 v2 v3 v4 v5:Value):KeepsQ Q w (set6 w b v0 v1 v2 v3 v4 v5):=⟨by rw[set6_size];exact Nat.le_refl _,fun k hk _=>set6_other _ _ _ _ _ _ _ _ _ fun e=>hb (e▸hk)⟩
def exZero:List Value:=[.int .u8 0,.int .i64 0,.string ⟨#[]⟩,.int .i64 0,.int .i64 0,.slice none 0 0]
set_option maxRecDepth 100000 in
set_option maxHeartbeats 1600000 in
theorem join_calls(k:Int)(x y:Ex)(w:World):Calls Tryz.prog 102 #[.int .u8 k,x.val,y.val] w fun r w'=>∃c,r=.returned (Ex.mk k x.pl ⟨#[]⟩ 0 0 (some ⟨c,0,none⟩) 2 [x,y]).val∧w.heap.size≤c∧c<w'.heap.size∧(∀j,j<12→w'.cell? ⟨c,j,none⟩=(x.cells++y.cells)[j]?)∧Below w.heap.size w w':=by
 obtain⟨kx,px,nx,ix,dx,ax,cx,lx⟩:=x
 obtain⟨ky,py,ny,iy,dy,ay,cy,ly⟩:=y
 simp only[Ex.val,Ex.cells,List.length_cons,List.length_nil]
 generalize lx.length=n at *
 generalize ly.length=m at *
 go_enter Tryz.func102,Tryz.ntmps102
 go_wp2_with fail
 refine bodyPost_ret (by simp[results,Tryz.results102,go_sem, *];try rfl) rfl ?_
 refine⟨w.heap.size+1+1+1,rfl,by omega,by simp,fun j hj=>?_,(show Gr w _ from(by with_reducible repeat first|exact Gr.refl _|refine Gr.alloc ?_ _|refine Gr.drewN ?_ _|refine Gr.drew ?_|refine Gr.later ?_ _ _)).below⟩
 exact(World.cell?_alloc_at _ _ _ _ (by simp)).trans (by simp)
def restOf(R:Nat)(w:World):Nat:=match w.cell? ⟨R,0,none⟩ with
 | some (.slice _ n _)=>n
 | _=>0
theorem RdAt.rest{W0:World}{R op:Nat}{ts:List Tok}{w:World}(h:RdAt W0 R ts op w):restOf R w=ts.length:=by
 obtain⟨g,o,cap,h1,-⟩:=h.row
 rw[restOf,h1]
theorem PR.ok_of_then{α β:Type}{r:PR α}{f:α→List Tok→PR β}{x:β × List Tok}(h:r.then f=.ok x):∃a ts,r=.ok (a,ts)∧f a ts=.ok x:=by
 cases r with
 | error e=>cases h
 | ok p=>exact⟨p.1,p.2,rfl,h⟩
set_option maxRecDepth 100000 in
set_option maxHeartbeats 3200000 in
theorem chain_rd{W0:World}{R:Nat}(f:Nat)(hent:∀args W,(callFunc f args).run Tryz.prog W=.ok (.enter f args) W)(part:Nat→List Tok→PR Ex)(hpart:DoesE W0 R f part)(hlen:∀op ts e t2,part op ts=.ok (e,t2)→t2.length≤ts.length)(rule:Int)(n op:Nat)(ts:List Tok)(w:World)(hE:Ends ts)(hrd:RdAt W0 R ts op w)(res:PR Ex)(hres:res=(part op ts).then fun a t1=>chainL (part op) rule n a t1)(hns:∀k,res≠.error (k,0)) :
  Calls Tryz.prog 126 #[rp R,.int .u8 rule,.func (.func f) #[rp R] #[]] w (Post W0 R op w res (IsEx w.heap.size)):=by
 have HM:Hid (∀(ts:List Tok)(b:World),Ends ts→RdAt W0 R ts op b→(∀k,part op ts≠.error (k,0))→Calls Tryz.prog f #[rp R] b (Post W0 R op b (part op ts) (IsEx b.heap.size))):=fun ts b h1 h2 h3=>hpart op ts b h1 h2 h3
 have HNS:Hid (∀k,part op ts≠.error (k,0)):=fun k h=>hns k (by rw[hres,h];rfl)
 have HE:Hid _:=hE
 have HRes:Hid _:=hres
 have HNs:Hid _:=hns
 have HLen:Hid _:=hlen
 obtain⟨w0,hw0⟩:∃w0:World,w0=w.alloc (.cells #[.int .u8 0,.int .i64 0,.string ⟨#[]⟩,.int .i64 0,.int .i64 0,.slice none 0 0] 27):=⟨_,rfl⟩
 have hb0:Below w.heap.size w w0:=by rw[hw0];exact bal _
 have hs0:w0.heap.size=w.heap.size+1:=by rw[hw0];simp
 have C1:=HM.out ts w0 hE (hrd.below hb0) HNS.out
 have HW0:=hid hw0.symm
 have HB0:Hid _:=hb0
 have HS0:Hid _:=hs0
 have HZ:Hid (∀j,w0.cell? ⟨w.heap.size,j,none⟩=(#[.int .u8 0,.int .i64 0,.string ⟨#[]⟩,.int .i64 0,.int .i64 0,.slice none 0 0]:Array Value)[j]?∧w0.frozen? ⟨w.heap.size,j,none⟩=false):=fun j=>by rw[hw0];exact⟨World.cell?_alloc_at _ _ _ _ rfl,World.frozen?_alloc_at _ _ _ _ rfl⟩
 have HRd:Hid (W0.heap.size≤w.heap.size∧R<w.heap.size):=⟨hrd.keeps.size,hrd.lt⟩
 clear hpart hlen hE hrd hres hns hw0 hb0 hs0
 generalize part op ts=p1 at C1 HRes
 simp only[rp] at C1 ⊢
 go_enter Tryz.func126,Tryz.ntmps126
 go_wp2_with fail
 rw[HW0.out]
 refine C1.mono ?_
 rintro x w1 ⟨hk,hp⟩
 have HK1:=hid hk
 clear C1 hk
 cases p1 with
 | error er =>
  obtain⟨kk,ee⟩:=er
  obtain⟨rfl,t2,hr2⟩:=hp
  have HR2:Hid _:=hr2
  have HRes2:Hid (res=.error (kk,ee)):=HRes.out
  rw[HRes2.out]
  clear hr2 HRes HNs
  go_wp2_with fail
  exact⟨rfl,(KeepsB.ofBelow HB0.out).trans HK1.out,rfl,t2,HR2.out⟩
 | ok pr =>
  obtain⟨a1,t1⟩:=pr
  obtain⟨⟨v,rfl,xa,hbare,rfl,hlies,hgood⟩,hr1,hE1⟩:=hp
  have HRes2:Hid (res=chainL (part op) rule n a1 t1):=HRes.out
  obtain⟨wL,hwL⟩:=nw (w1.alloc (.cells xa.cells.toArray 27))
  have hbL:Below w1.heap.size w1 wL:=by rw[hwL];exact bal _
  obtain⟨B,hB⟩:=nw (w1.heap.size)
  have HBs:=hid hB
  have HBR:Hid (w.heap.size<B∧B≠R∧W0.heap.size≤B∧w.heap.size≠R):=by
   have h1:=HRd.out
   have h2:=HK1.out.size
   have h3:=HS0.out
   exact⟨by omega,by omega,by omega,by omega⟩
  have HI0:Hid (RdAt W0 R t1 op wL∧Ends t1∧Lies (fun k=>w.heap.size<k∧k≠B) wL xa∧xa.good∧chainL (part op) rule n xa.bare t1=res∧KeepsB R w wL∧B<wL.heap.size):=by
   refine⟨hr1.below hbL,hE1,(hlies.mono fun k h1 h2=>⟨by have:=HS0.out;omega,by omega⟩).keep (KeepsQ.ofBelow hbL),hgood,?_,(KeepsB.ofBelow HB0.out).trans (HK1.out.trans (KeepsB.ofBelow hbL)),by rw[hwL,hB];simp⟩
   rw[hbare];exact HRes2.out.symm
  have hcL:∀j,j<6→wL.cell? ⟨B,j,none⟩=xa.cells[j]?:=fun j _=>by rw[hwL];exact(World.cell?_alloc_at _ _ _ _ hB).trans (by simp)
  have hfL:∀j,wL.frozen? ⟨B,j,none⟩=false:=fun j=>by rw[hwL];exact World.frozen?_alloc_at _ _ _ _ hB
  have hzL:∀j,wL.cell? ⟨w.heap.size,j,none⟩=(#[.int .u8 0,.int .i64 0,.string ⟨#[]⟩,.int .i64 0,.int .i64 0,.slice none 0 0]:Array Value)[j]?∧wL.frozen? ⟨w.heap.size,j,none⟩=false:=fun j=>by
   have h1:=(HK1.out.trans (KeepsB.ofBelow hbL)).cell (b:=w.heap.size) (i:=j) (by have:=HS0.out;omega) HBR.out.2.2.2
   exact⟨h1.1.trans (HZ.out j).1,h1.2.trans (HZ.out j).2⟩
  have HC0:Hid _:=hcL
  have HF0:Hid _:=hfL
  have HZ0:Hid _:=hzL
  obtain⟨ka,pa,na,ia,da,aa,ca,la⟩:=xa
  have HWL:Hid (w1.alloc (.cells #[.int .u8 ka,.int .i64 pa,.string na,.int .i64 ia,.int .i64 da,.slice aa la.length ca] 27)=wL):=hwL.symm
  clear hbare hlies hgood hr1 hE1 HRes HNS hwL hbL hcL hfL hzL
  simp only[Ex.val,Ex.cells]
  go_wp2_with fail
  rw[HWL.out]
  try rw[←hB]
  clear hB
  go_loopw [] (fun wr=>∃(x:Ex)(ts':List Tok)(n':Nat),Hid (RdAt W0 R ts' op wr∧Ends ts'∧Lies (fun k=>w.heap.size<k∧k≠B) wr x∧x.good∧chainL (part op) rule n' x.bare ts'=res∧KeepsB R w wr∧B<wr.heap.size)∧Hid (∀j,j<6→wr.cell? ⟨B,j,none⟩=x.cells[j]?)∧Hid (∀j,wr.frozen? ⟨B,j,none⟩=false)∧Hid (∀j,wr.cell? ⟨w.heap.size,j,none⟩=(#[.int .u8 0,.int .i64 0,.string ⟨#[]⟩,.int .i64 0,.int .i64 0,.slice none 0 0]:Array Value)[j]?∧wr.frozen? ⟨w.heap.size,j,none⟩=false)) (fun wr=>restOf R wr)
  case atStart=>exact⟨_,t1,n,HI0,HC0,HF0,HZ0⟩
  case round =>
   obtain⟨x,ts',n',HI,HC,HF,HZw⟩:=hrel
   obtain⟨hr,hE,hL,hG,hch,hkw,hBlt⟩:=HI.out
   obtain⟨t,r,rfl⟩:=hE.ne
   have CB:=between_rd rule hr hE.fine
   rcases n' with _|n'
   ·exact absurd hch.symm (HNs.out 0)
   have HR:=hid hr
   have HEn:=hid hE
   have HL:=hid hL
   have HG:Hid x.good:=hG
   have HKw:=hid hkw
   have HBl:=hid hBlt
   cases hs:sgn rule (t::r) with
   | none =>
    have hres3:res=.ok (x.bare,t::r):=by rw[←hch,chainL,hs]
    have HRes3:Hid _:=hres3
    rw[hres3]
    rw[hs] at CB
    clear hr hE hL hG hch hkw hBlt HI hres3 hs
    simp only[Option.isSome_none,rp] at CB
    go_wp2_with fail
    refine CB.mono ?_
    rintro r2 w2 ⟨rfl,hb2⟩
    have HB2:=hid hb2
    clear CB hb2
    have hc:∀j,j<6→w2.cell? ⟨B,j,none⟩=x.cells[j]?:=fun j hj=>(HB2.out.cell (p:=⟨B,j,none⟩) HBl.out).trans (HC.out j hj)
    obtain⟨kx,px,nx,ix,dx,ax,cx,lx⟩:=x
    have c0:w2.cell? ⟨B,0,none⟩=some (.int .u8 kx):=hc 0 (by omega)
    have c1:w2.cell? ⟨B,1,none⟩=some (.int .i64 px):=hc 1 (by omega)
    have c2:w2.cell? ⟨B,2,none⟩=some (.string nx):=hc 2 (by omega)
    have c3:w2.cell? ⟨B,3,none⟩=some (.int .i64 ix):=hc 3 (by omega)
    have c4:w2.cell? ⟨B,4,none⟩=some (.int .i64 dx):=hc 4 (by omega)
    have c5:w2.cell? ⟨B,5,none⟩=some (.slice ax lx.length cx):=hc 5 (by omega)
    have hwl:w.heap.size<wr.heap.size:=by have h1:=HBR.out.1;have h2:=HBl.out;omega
    have hz:∀j,w2.cell? ⟨w.heap.size,j,none⟩=(#[.int .u8 0,.int .i64 0,.string ⟨#[]⟩,.int .i64 0,.int .i64 0,.slice none 0 0]:Array Value)[j]?∧w2.frozen? ⟨w.heap.size,j,none⟩=false:=fun j=>⟨(HB2.out.cell (p:=⟨w.heap.size,j,none⟩) hwl).trans (HZw.out j).1,(HB2.out.frozen (p:=⟨w.heap.size,j,none⟩) hwl).trans (HZw.out j).2⟩
    have z0:w2.cell? ⟨w.heap.size,0,none⟩=some (.int .u8 0):=(hz 0).1
    have z1:w2.cell? ⟨w.heap.size,1,none⟩=some (.int .i64 0):=(hz 1).1
    have z2:w2.cell? ⟨w.heap.size,2,none⟩=some (.string ⟨#[]⟩):=(hz 2).1
    have z3:w2.cell? ⟨w.heap.size,3,none⟩=some (.int .i64 0):=(hz 3).1
    have z4:w2.cell? ⟨w.heap.size,4,none⟩=some (.int .i64 0):=(hz 4).1
    have z5:w2.cell? ⟨w.heap.size,5,none⟩=some (.slice none 0 0):=(hz 5).1
    have g0:=(hz 0).2
    have g1:=(hz 1).2
    have g2:=(hz 2).2
    have g3:=(hz 3).2
    have g4:=(hz 4).2
    have g5:=(hz 5).2
    have hlt2:=Nat.lt_of_lt_of_le hwl HB2.out.size
    have hltB:=Nat.lt_of_lt_of_le HBl.out HB2.out.size
    obtain⟨W9,hW9⟩:=nw (set6 w2 w.heap.size (.int .u8 kx) (.int .i64 px) (.string nx) (.int .i64 ix) (.int .i64 dx) (.slice ax lx.length cx))
    have hy:∀j,j<6→W9.cell? ⟨w.heap.size,j,none⟩=[.int .u8 kx,.int .i64 px,.string nx,.int .i64 ix,.int .i64 dx,.slice ax lx.length cx][j]?:=by rw[hW9];exact set6_cell (l:=exZero) rfl (fun j hj=>((hz j).1).trans (by simp[exZero])) _ _ _ _ _ _
    have HP:Hid (Post W0 R op w (.ok (.bare ⟨kx,px,nx,ix,dx,ax,cx,lx⟩,t::r)) (IsEx w.heap.size) (.returned (.agg #[.int .u8 kx,.int .i64 px,.string nx,.int .i64 ix,.int .i64 dx,.slice ax lx.length cx])) W9):=by
     rw[Hid,hW9]
     refine⟨set6_keepsB (HKw.out.trans (KeepsB.ofBelow HB2.out)) (Nat.le_refl _) _ _ _ _ _ _,⟨_,rfl,_,rfl,rfl,?_,HG.out⟩,set6_rd (HR.out.below HB2.out) HRd.out.1 _ _ _ _ _ _,HEn.out⟩
     exact((HL.out.keep (KeepsQ.ofBelow HB2.out)).keep (set6_keepsQ (fun h=>Nat.lt_irrefl _ h.1) _ _ _ _ _ _)).mono fun k _ h=>Nat.le_of_lt h.1
    have HW9:Hid ((((((w2.setCell ⟨w.heap.size,0,none⟩ (.int .u8 kx)).setCell ⟨w.heap.size,1,none⟩ (.int .i64 px)).setCell ⟨w.heap.size,2,none⟩ (.string nx)).setCell ⟨w.heap.size,3,none⟩ (.int .i64 ix)).setCell ⟨w.heap.size,4,none⟩ (.int .i64 dx)).setCell ⟨w.heap.size,5,none⟩ (.slice ax lx.length cx)=W9):=hW9.symm
    have HY:Hid _:=hy
    have HBB:Hid (B≠w.heap.size):=by have:=HBR.out.1;exact(Nat.ne_of_lt this).symm
    have hne:=HBB.out
    clear hz hy hc hW9 HC HZw
    go_wp2_with fail
    rw[HW9.out]
    clear z0 z1 z2 z3 z4 z5
    have z0:W9.cell? ⟨w.heap.size,0,none⟩=some (.int .u8 kx):=HY.out 0 (by omega)
    have z1:W9.cell? ⟨w.heap.size,1,none⟩=some (.int .i64 px):=HY.out 1 (by omega)
    have z2:W9.cell? ⟨w.heap.size,2,none⟩=some (.string nx):=HY.out 2 (by omega)
    have z3:W9.cell? ⟨w.heap.size,3,none⟩=some (.int .i64 ix):=HY.out 3 (by omega)
    have z4:W9.cell? ⟨w.heap.size,4,none⟩=some (.int .i64 dx):=HY.out 4 (by omega)
    have z5:W9.cell? ⟨w.heap.size,5,none⟩=some (.slice ax lx.length cx):=HY.out 5 (by omega)
    refine bodyPost_ret (by simp[results,Tryz.results126,go_sem, *];try rfl) rfl ?_
    exact HP.out
   | some k =>
    have hne:=sgn_text hs
    have HKwf:=hid (sgn_wf hs)
    obtain⟨hE2,t',r',rfl⟩:=hE.more (Or.inr hne)
    have HE2:=hid hE2
    have HCh:Hid ((part op (t'::r')).then (fun e2 ts2=>chainL (part op) rule n' (mk2 k x.bare e2) ts2)=res):=by rw[Hid,←hch,chainL,hs];rfl
    have hns2:∀k,part op (t'::r')≠.error (k,0):=fun kk h=>HNs.out kk (by rw[←HCh.out,h];rfl)
    have HT:Hid (∀w2,Below wr.heap.size wr w2→Calls Tryz.prog 91 #[rp R] w2 fun x w'=>x=.returned (tkVal t)∧RdAt W0 R (t'::r') op w'∧KeepsB R w2 w'):=fun w2 hb=>take_rd (HR.out.below hb)
    have HN2:Hid _:=hns2
    rw[hs] at CB
    have hsm:∀a:Option Int,(some k).getD 0=k:=fun _=>rfl
    simp only[Option.isSome_some,Option.getD_some,rp,tkVal,tkCells] at CB HT
    have HLenT:Hid (∀e t2,part op (t'::r')=.ok (e,t2)→t2.length≤r'.length+1):=fun e t2 h=>by have:=HLen.out op _ e t2 h;simpa using this
    clear hr hE hL hG hch hkw hBlt HI hs hne hE2 hns2 hsm
    go_wp2_with fail
    refine CB.mono ?_
    rintro r2 w2 ⟨rfl,hb2⟩
    have HB2:=hid hb2
    have CT:=HT.out w2 hb2
    clear CB hb2
    go_wp2_with fail
    refine CT.mono ?_
    rintro r3 w3 ⟨rfl,hr3,hk3⟩
    have HR3:Hid _:=hr3
    have HK3:=hid ((KeepsB.ofBelow HB2.out).trans hk3)
    clear CT hr3 hk3
    have hlt3:=Nat.lt_of_lt_of_le HBl.out HK3.out.size
    have hB3:∀j,w3.cell? ⟨B,j,none⟩=wr.cell? ⟨B,j,none⟩∧w3.frozen? ⟨B,j,none⟩=wr.frozen? ⟨B,j,none⟩:=fun j=>HK3.out.cell HBl.out HBR.out.2.1
    have hc:∀j,j<6→w3.cell? ⟨B,j,none⟩=x.cells[j]?:=fun j hj=>(hB3 j).1.trans (HC.out j hj)
    have hf:∀j,w3.frozen? ⟨B,j,none⟩=false:=fun j=>(hB3 j).2.trans (HF.out j)
    have HL3:Hid (Lies (fun k=>w.heap.size<k∧k≠B) w3 x):=HL.out.keep (KeepsQ.ofB HK3.out fun h=>by have:=HRd.out.2;omega)
    have HF3:Hid _:=hf
    have HC3:Hid _:=hc
    obtain⟨kx,px,nx,ix,dx,ax,cx,lx⟩:=x
    have c0:w3.cell? ⟨B,0,none⟩=some (.int .u8 kx):=hc 0 (by omega)
    have c1:w3.cell? ⟨B,1,none⟩=some (.int .i64 px):=hc 1 (by omega)
    have c2:w3.cell? ⟨B,2,none⟩=some (.string nx):=hc 2 (by omega)
    have c3:w3.cell? ⟨B,3,none⟩=some (.int .i64 ix):=hc 3 (by omega)
    have c4:w3.cell? ⟨B,4,none⟩=some (.int .i64 dx):=hc 4 (by omega)
    have c5:w3.cell? ⟨B,5,none⟩=some (.slice ax lx.length cx):=hc 5 (by omega)
    have HP:Hid (∀W,Below w3.heap.size w3 W→Calls Tryz.prog f #[.pointer (some ⟨R,0,none⟩)] W (Post W0 R op W (part op (t'::r')) (IsEx W.heap.size))):=fun W hb=>HM.out (t'::r') W HE2.out (HR3.out.below hb) HN2.out
    have HBk:Hid (∀W,KeepsB R w3 W→(∀j,j<6→W.cell? ⟨B,j,none⟩=[.int .u8 kx,.int .i64 px,.string nx,.int .i64 ix,.int .i64 dx,.slice ax lx.length cx][j]?)∧∀j,W.frozen? ⟨B,j,none⟩=false):=fun W hk=>⟨fun j hj=>(hk.cell hlt3 HBR.out.2.1).1.trans (HC3.out j hj),fun j=>(hk.cell hlt3 HBR.out.2.1).2.trans (HF3.out j)⟩
    have HJ:Hid (∀(y:Ex) W,Calls Tryz.prog 102 #[.int .u8 k,.agg #[.int .u8 kx,.int .i64 px,.string nx,.int .i64 ix,.int .i64 dx,.slice ax lx.length cx],y.val] W fun r w'=>∃c,r=.returned (.agg #[.int .u8 k,.int .i64 px,.string ⟨#[]⟩,.int .i64 0,.int .i64 0,.slice (some ⟨c,0,none⟩) 2 2])∧W.heap.size≤c∧c<w'.heap.size∧(∀j,j<12→w'.cell? ⟨c,j,none⟩=(Ex.cells ⟨kx,px,nx,ix,dx,ax,cx,lx⟩++y.cells)[j]?)∧Below W.heap.size W w'):=fun y W=>join_calls k ⟨kx,px,nx,ix,dx,ax,cx,lx⟩ y W
    have HMeas:Hid (restOf R wr=r'.length+2):=HR.out.rest
    cases hpp:part op (t'::r') with
    | error er =>
     obtain⟨kk,ee⟩:=er
     rw[hpp] at HP HCh
     have HRes3:Hid (res=.error (kk,ee)):=HCh.out.symm
     clear hc hf hB3 HCh hpp
     go_wp2_with fail
     refine wp_region_any (by kernel_rfl) ?_
     change wpAny _ _ _ _ _ _ _ (World.drew _)
     refine wpAny_take (i:=0) (v:=?_) rfl (by kernel_rfl) (by kernel_rfl) (by kernel_rfl) (fun _ _ _ h=>h) (Or.inl ⟨by rfl,?_⟩) ?_
     rotate_left
     ·intro w;first|(go_simp;done)|(go_simp;with_reducible rfl)
     refine wpAny_take (i:=2) (v:=?_) rfl (by kernel_rfl) (by kernel_rfl) (by kernel_rfl) (fun _ _ _ h=>h) (Or.inl ⟨by rfl,?_⟩) ?_
     rotate_left
     ·intro w;first|(go_simp;done)|(go_simp;with_reducible rfl)
     refine wpAny_ready (rs:=[1,3]) (by kernel_rfl) (by simp) ?_
     refine AllReady.cons rfl (fun K hK=>?_) ?_
     ·go_simp
      refine hK _ _ ?_
      clear hK K
      refine wpAny_ready (rs:=[3]) (by kernel_rfl) (by simp) ?_
      refine AllReady.cons rfl (fun K hK=>?_) AllReady.nil
      go_simp
      refine(HP.out w3.drew ⟨rfl,rfl,rfl,Nat.le_refl _,fun _ _=>rfl⟩).mono ?_
      rintro r4 w4 ⟨hk4,rfl,t4,hr4⟩
      have HK4:Hid (KeepsB R w3 w4):=⟨hk4.os,hk4.tape,hk4.output,hk4.size,hk4.block⟩
      have HR4:Hid _:=hr4
      clear hk4 hr4
      go_wp2_with fail
      rw[HRes3.out]
      exact⟨rfl,HKw.out.trans (HK3.out.trans HK4.out),rfl,t4,HR4.out⟩
     ·refine AllReady.cons rfl (fun K hK=>?_) AllReady.nil
      go_simp
      refine(HP.out w3.drew ⟨rfl,rfl,rfl,Nat.le_refl _,fun _ _=>rfl⟩).mono ?_
      rintro r4 w4 ⟨hk4,rfl,t4,hr4⟩
      have HK4:Hid (KeepsB R w3 w4):=⟨hk4.os,hk4.tape,hk4.output,hk4.size,hk4.block⟩
      have HR4:Hid _:=hr4
      clear hk4 hr4
      go_wp2_with fail
      rw[HRes3.out]
      exact⟨rfl,HKw.out.trans (HK3.out.trans HK4.out),rfl,t4,HR4.out⟩
    | ok pr =>
     obtain⟨e2,t2⟩:=pr
     have HLt:=hid (HLenT.out e2 t2 hpp)
     rw[hpp] at HP HCh
     have HC2:Hid (chainL (part op) rule n' (mk2 k (Ex.bare ⟨kx,px,nx,ix,dx,ax,cx,lx⟩) e2) t2=res):=HCh.out
     clear hc hf hB3 HCh hpp
     go_wp2_with fail
     go_region_law (first
      | (go_simp;refine(HP.out w3.drew ⟨rfl,rfl,rfl,Nat.le_refl _,fun _ _=>rfl⟩).mono ?_;rintro r4 w4 ⟨hk4,⟨v4,rfl,x4,hbx,rfl,hlx,hgx⟩,hr4,hE4⟩;have hk4':KeepsB R w3 w4:=⟨hk4.os,hk4.tape,hk4.output,hk4.size,hk4.block⟩;obtain⟨q1,q2⟩:=HBk.out w4 hk4';have d0:w4.cell? ⟨B,0,none⟩=some (.int .u8 kx):=q1 0 (by omega);have d1:w4.cell? ⟨B,1,none⟩=some (.int .i64 px):=q1 1 (by omega);have d2:w4.cell? ⟨B,2,none⟩=some (.string nx):=q1 2 (by omega);have d3:w4.cell? ⟨B,3,none⟩=some (.int .i64 ix):=q1 3 (by omega);have d4:w4.cell? ⟨B,4,none⟩=some (.int .i64 dx):=q1 4 (by omega);have d5:w4.cell? ⟨B,5,none⟩=some (.slice ax lx.length cx):=q1 5 (by omega);have HK4:Hid _:=hk4';have HBX:Hid _:=hbx;have HLX:Hid (Lies (fun k=>w3.heap.size≤k) w4 x4):=hlx;have HGX:Hid _:=hgx;have HR4:Hid _:=hr4;have HE4:Hid (Ends t2):=hE4;clear hk4 hk4' q1 q2 hbx hlx hgx hr4 hE4;go_wp2_with fail)
      | (go_simp;refine(HJ.out x4 w4).mono ?_;rintro r5 w5 ⟨cc,rfl,hj1,hj2,hj3,hj4⟩;have hk5:KeepsB R w3 w5:=HK4.out.trans (KeepsB.ofBelow hj4);obtain⟨q1,q2⟩:=HBk.out w5 hk5;have y0:w5.cell? ⟨B,0,none⟩=some (.int .u8 kx):=q1 0 (by omega);have y1:w5.cell? ⟨B,1,none⟩=some (.int .i64 px):=q1 1 (by omega);have y2:w5.cell? ⟨B,2,none⟩=some (.string nx):=q1 2 (by omega);have y3:w5.cell? ⟨B,3,none⟩=some (.int .i64 ix):=q1 3 (by omega);have y4:w5.cell? ⟨B,4,none⟩=some (.int .i64 dx):=q1 4 (by omega);have y5:w5.cell? ⟨B,5,none⟩=some (.slice ax lx.length cx):=q1 5 (by omega);have g0:=q2 0;have g1:=q2 1;have g2:=q2 2;have g3:=q2 3;have g4:=q2 4;have g5:=q2 5;have hB5:B<w5.heap.size:=Nat.lt_of_lt_of_le hlt3 hk5.size;have HK5:Hid _:=hk5;have HJ1:Hid _:=hj1;have HJ2:Hid _:=hj2;have HJ3:Hid _:=hj3;have HJ4:Hid _:=hj4;have HQ1:Hid _:=q1;have HQ2:Hid _:=q2;clear hj1 hj2 hj3 hj4 hk5 q1 q2;go_wp2_with fail)
      | go_simp)
     all_goals go_wp2_with fail
     all_goals
      have HRW:Hid (RdAt W0 R t2 op (set6 w5 B (.int .u8 k) (.int .i64 px) (.string ⟨#[]⟩) (.int .i64 0) (.int .i64 0) (.slice (some ⟨cc,0,none⟩) 2 2))):=set6_rd (HR4.out.below HJ4.out) HBR.out.2.2.1 _ _ _ _ _ _
      go_roundw
      case rel =>
       have hx5:Lies (fun k=>w.heap.size<k∧k≠B) w5 ⟨kx,px,nx,ix,dx,ax,cx,lx⟩:=(HL3.out.keep (KeepsQ.ofB HK4.out fun h=>by have:=HRd.out.2;omega)).keep (KeepsQ.ofBelow HJ4.out)
       have hy5:Lies (fun k=>w.heap.size<k∧k≠B) w5 x4:=(HLX.out.mono fun k _ h=>⟨by have:=HBR.out.1;omega,by omega⟩).keep (KeepsQ.ofBelow HJ4.out)
       have h4s:=HK4.out.size
       have hcc:=HJ1.out
       have hgx:=HG.out
       simp only[Ex.good] at hgx
       refine⟨⟨k,px,⟨#[]⟩,0,0,some ⟨cc,0,none⟩,2,[⟨kx,px,nx,ix,dx,ax,cx,lx⟩,x4]⟩,t2,n',⟨HRW.out,HE4.out,?_,?_,?_,?_,?_⟩,fun j hj=>?_,fun j=>?_,fun j=>?_⟩
       ·exact(lies_two HJ3.out ⟨by have:=HBR.out.1;omega,by omega⟩ HJ2.out hx5 hy5).keep (set6_keepsQ (fun h=>h.2 rfl) _ _ _ _ _ _)
       ·exact⟨⟨HKwf.out,hgx.1.2.1,by decide +kernel,by decide,by decide,Nat.le_refl _,by decide +kernel⟩,HG.out,HGX.out,trivial⟩
       ·rw[←HC2.out,←HBX.out];rfl
       ·exact set6_keepsB (HKw.out.trans (HK3.out.trans HK5.out)) (Nat.le_of_lt HBR.out.1) _ _ _ _ _ _
       ·have:=set6_size w5 B (.int .u8 k) (.int .i64 px) (.string ⟨#[]⟩) (.int .i64 0) (.int .i64 0) (.slice (some ⟨cc,0,none⟩) 2 2)
        exact Nat.lt_of_lt_of_eq hB5 this.symm
       ·exact set6_cell (l:=[.int .u8 kx,.int .i64 px,.string nx,.int .i64 ix,.int .i64 dx,.slice ax lx.length cx]) rfl HQ1.out _ _ _ _ _ _ j hj
       ·exact(set6_frozen w5 B _ _ _ _ _ _ _).trans (HQ2.out j)
       ·have hwl:w.heap.size<wr.heap.size:=by have h1:=HBR.out.1;have h2:=HBl.out;omega
        have h1:=(HK3.out.trans HK5.out).cell (b:=w.heap.size) (i:=j) hwl HBR.out.2.2.2
        have h2:(set6 w5 B (.int .u8 k) (.int .i64 px) (.string ⟨#[]⟩) (.int .i64 0) (.int .i64 0) (.slice (some ⟨cc,0,none⟩) 2 2)).cell? ⟨w.heap.size,j,none⟩=w5.cell? ⟨w.heap.size,j,none⟩:=World.cell?_of_block (set6_other _ _ _ _ _ _ _ _ _ (Nat.ne_of_lt HBR.out.1))
        exact⟨h2.trans (h1.1.trans (HZw.out j).1),((set6_frozen w5 B _ _ _ _ _ _ _).trans h1.2).trans (HZw.out j).2⟩
      case measure =>
       have h1:=HRW.out.rest
       have h2:=HMeas.out
       have h3:=HLt.out
       rw[h2]
       exact Nat.lt_of_le_of_lt (Nat.le_of_eq h1) (by omega)
open Go.Shelf
def exStore(w:World)(b:Nat)(x:Ex):World:=set6 w b (.int .u8 x.kd) (.int .i64 x.pl) (.string x.nm) (.int .i64 x.it) (.int .i64 x.dn) (.slice x.ad x.args.length x.cap)
theorem post_ex{W0:World}{R op:Nat}{w w1:World}{ts:List Tok}{x:Ex}(hW:W0.heap.size≤w.heap.size)(hk:KeepsB R w w1)(hr:RdAt W0 R ts op w1)(hE:Ends ts)(hl:Lies (fun k=>w.heap.size<k) w1 x)(hg:x.good):Post W0 R op w (.ok (x.bare,ts)) (IsEx w.heap.size) (.returned x.val) (exStore w1 w.heap.size x) :=
 ⟨set6_keepsB hk (Nat.le_refl _) _ _ _ _ _ _,⟨_,rfl,x,rfl,rfl,(hl.keep (set6_keepsQ (fun h=>Nat.lt_irrefl _ h) _ _ _ _ _ _)).mono fun _ _ h=>Nat.le_of_lt h,hg⟩,set6_rd hr hW _ _ _ _ _ _,hE⟩
theorem exStore_cell{w:World}{b:Nat}(x:Ex)(h:∀j,w.cell? ⟨b,j,none⟩=exZero[j]?):∀j,j<6→(exStore w b x).cell? ⟨b,j,none⟩=x.cells[j]?:=fun j hj=>by
 obtain⟨kx,px,nx,ix,dx,ax,cx,lx⟩:=x
 exact set6_cell (l:=exZero) rfl (fun j _=>h j) _ _ _ _ _ _ j hj
def Own(w:World)(b:Nat):Prop:=(∀j,w.cell? ⟨b,j,none⟩=exZero[j]?∧w.frozen? ⟨b,j,none⟩=false)∧b<w.heap.size
theorem Own.made(w:World)(h:Nat)(hb:h=w.heap.size):Own (w.alloc (.cells #[.int .u8 0,.int .i64 0,.string ⟨#[]⟩,.int .i64 0,.int .i64 0,.slice none 0 0] 27)) h:=by
 subst hb
 exact⟨fun j=>⟨(World.cell?_alloc_at _ _ _ _ rfl).trans (by simp[exZero]),World.frozen?_alloc_at _ _ _ _ rfl⟩,by simp⟩
theorem Own.keep{R b:Nat}{w w':World}(h:Own w b)(hk:KeepsB R w w')(hR:b≠R):Own w' b:=⟨fun j=>⟨(hk.cell h.2 hR).1.trans (h.1 j).1,(hk.cell h.2 hR).2.trans (h.1 j).2⟩,Nat.lt_of_lt_of_le h.2 hk.size⟩
set_option maxRecDepth 100000 in
set_option maxHeartbeats 3200000 in
theorem or1_rd{W0:World}{R:Nat}(n:Nat)(hp:DoesE W0 R 127 (pp n 3))(hlen:∀op ts e t2,pp n 3 op ts=.ok (e,t2)→t2.length≤ts.length):DoesE W0 R 100 (pp (n+1) 2):=by
 intro op ts w hE hrd hns
 obtain⟨w0,hw0⟩:∃w0:World,w0=w.alloc (.cells #[.int .u8 0,.int .i64 0,.string ⟨#[]⟩,.int .i64 0,.int .i64 0,.slice none 0 0] 27):=⟨_,rfl⟩
 have hb0:Below w.heap.size w w0:=by rw[hw0];exact bal _
 have hs0:w0.heap.size=w.heap.size+1:=by rw[hw0];simp
 have ho0:Own w0 w.heap.size:=by rw[hw0];exact Own.made w _ rfl
 have CC:=chain_rd 127 (enters_of Tryz.func127 (by kernel_rfl) rfl) (pp n 3) hp hlen 1 n op ts w0 hE (hrd.below hb0) (pp (n+1) 2 op ts) rfl hns
 have HW0:=hid hw0.symm
 have HB0:Hid _:=hb0
 have HS0:Hid _:=hs0
 have HO0:=hid ho0
 have HRd:Hid (W0.heap.size≤w.heap.size∧R<w.heap.size):=⟨hrd.keeps.size,hrd.lt⟩
 clear hp hlen hE hrd hns hw0 hb0 hs0 ho0
 generalize pp (n+1) 2 op ts=res at CC ⊢
 simp only[rp] at CC ⊢
 go_enter Tryz.func100,Tryz.ntmps100
 go_wp2_with fail
 rw[HW0.out]
 refine CC.mono ?_
 rintro x w1 ⟨hk,hp⟩
 have HK1:=hid ((KeepsB.ofBelow HB0.out).trans hk)
 have HK0:Hid _:=hk
 clear CC hk
 cases res with
 | error er =>
  obtain⟨kk,ee⟩:=er
  obtain⟨rfl,t2,hr2⟩:=hp
  have HR2:Hid _:=hr2
  clear hr2
  go_wp2_with fail
  exact⟨rfl,HK1.out,rfl,t2,HR2.out⟩
 | ok pr =>
  obtain⟨a1,t1⟩:=pr
  obtain⟨⟨v,rfl,xa,rfl,rfl,hl,hg⟩,hr1,hE1⟩:=hp
  have HP:Hid _:=post_ex HRd.out.1 HK1.out hr1 hE1 (hl.mono fun k _ (h:w0.heap.size≤k)=>show w.heap.size<k by have:=HS0.out;omega) hg
  have hown:=HO0.out.keep HK0.out (show w.heap.size≠R by have:=HRd.out.2;omega)
  have HY:Hid _:=exStore_cell xa fun j=>(hown.1 j).1
  have hlt:=hown.2
  obtain⟨ka,pa,na,ia,da,aa,ca,la⟩:=xa
  obtain⟨W9,hW9⟩:=nw (exStore w1 w.heap.size ⟨ka,pa,na,ia,da,aa,ca,la⟩)
  rw[←hW9] at HP HY
  have HW9:Hid ((((((w1.setCell ⟨w.heap.size,0,none⟩ (.int .u8 ka)).setCell ⟨w.heap.size,1,none⟩ (.int .i64 pa)).setCell ⟨w.heap.size,2,none⟩ (.string na)).setCell ⟨w.heap.size,3,none⟩ (.int .i64 ia)).setCell ⟨w.heap.size,4,none⟩ (.int .i64 da)).setCell ⟨w.heap.size,5,none⟩ (.slice aa la.length ca)=W9):=hW9.symm
  have z0:w1.cell? ⟨w.heap.size,0,none⟩=some (.int .u8 0):=(hown.1 0).1
  have z1:w1.cell? ⟨w.heap.size,1,none⟩=some (.int .i64 0):=(hown.1 1).1
  have z2:w1.cell? ⟨w.heap.size,2,none⟩=some (.string ⟨#[]⟩):=(hown.1 2).1
  have z3:w1.cell? ⟨w.heap.size,3,none⟩=some (.int .i64 0):=(hown.1 3).1
  have z4:w1.cell? ⟨w.heap.size,4,none⟩=some (.int .i64 0):=(hown.1 4).1
  have z5:w1.cell? ⟨w.heap.size,5,none⟩=some (.slice none 0 0):=(hown.1 5).1
  have g0:=(hown.1 0).2
  have g1:=(hown.1 1).2
  have g2:=(hown.1 2).2
  have g3:=(hown.1 3).2
  have g4:=(hown.1 4).2
  have g5:=(hown.1 5).2
  clear hl hg hr1 hE1 hW9 hown
  simp only[Ex.val,Ex.cells]
  go_wp2_with fail
  rw[HW9.out]
  clear z0 z1 z2 z3 z4 z5
  have z0:W9.cell? ⟨w.heap.size,0,none⟩=some (.int .u8 ka):=HY.out 0 (by omega)
  have z1:W9.cell? ⟨w.heap.size,1,none⟩=some (.int .i64 pa):=HY.out 1 (by omega)
  have z2:W9.cell? ⟨w.heap.size,2,none⟩=some (.string na):=HY.out 2 (by omega)
  have z3:W9.cell? ⟨w.heap.size,3,none⟩=some (.int .i64 ia):=HY.out 3 (by omega)
  have z4:W9.cell? ⟨w.heap.size,4,none⟩=some (.int .i64 da):=HY.out 4 (by omega)
  have z5:W9.cell? ⟨w.heap.size,5,none⟩=some (.slice aa la.length ca):=HY.out 5 (by omega)
  refine bodyPost_ret (by simp[results,Tryz.results100,go_sem, *];try rfl) rfl ?_
  exact HP.out
set_option maxRecDepth 100000 in
set_option maxHeartbeats 3200000 in
theorem and1_rd{W0:World}{R:Nat}(n:Nat)(hp:DoesE W0 R 137 (pp n 4))(hlen:∀op ts e t2,pp n 4 op ts=.ok (e,t2)→t2.length≤ts.length):DoesE W0 R 127 (pp (n+1) 3):=by
 intro op ts w hE hrd hns
 obtain⟨w0,hw0⟩:∃w0:World,w0=w.alloc (.cells #[.int .u8 0,.int .i64 0,.string ⟨#[]⟩,.int .i64 0,.int .i64 0,.slice none 0 0] 27):=⟨_,rfl⟩
 have hb0:Below w.heap.size w w0:=by rw[hw0];exact bal _
 have hs0:w0.heap.size=w.heap.size+1:=by rw[hw0];simp
 have ho0:Own w0 w.heap.size:=by rw[hw0];exact Own.made w _ rfl
 have CC:=chain_rd 137 (enters_of Tryz.func137 (by kernel_rfl) rfl) (pp n 4) hp hlen 2 n op ts w0 hE (hrd.below hb0) (pp (n+1) 3 op ts) rfl hns
 have HW0:=hid hw0.symm
 have HB0:Hid _:=hb0
 have HS0:Hid _:=hs0
 have HO0:=hid ho0
 have HRd:Hid (W0.heap.size≤w.heap.size∧R<w.heap.size):=⟨hrd.keeps.size,hrd.lt⟩
 clear hp hlen hE hrd hns hw0 hb0 hs0 ho0
 generalize pp (n+1) 3 op ts=res at CC ⊢
 simp only[rp] at CC ⊢
 go_enter Tryz.func127,Tryz.ntmps127
 go_wp2_with fail
 rw[HW0.out]
 refine CC.mono ?_
 rintro x w1 ⟨hk,hp⟩
 have HK1:=hid ((KeepsB.ofBelow HB0.out).trans hk)
 have HK0:Hid _:=hk
 clear CC hk
 cases res with
 | error er =>
  obtain⟨kk,ee⟩:=er
  obtain⟨rfl,t2,hr2⟩:=hp
  have HR2:Hid _:=hr2
  clear hr2
  go_wp2_with fail
  exact⟨rfl,HK1.out,rfl,t2,HR2.out⟩
 | ok pr =>
  obtain⟨a1,t1⟩:=pr
  obtain⟨⟨v,rfl,xa,rfl,rfl,hl,hg⟩,hr1,hE1⟩:=hp
  have HP:Hid _:=post_ex HRd.out.1 HK1.out hr1 hE1 (hl.mono fun k _ (h:w0.heap.size≤k)=>show w.heap.size<k by have:=HS0.out;omega) hg
  have hown:=HO0.out.keep HK0.out (show w.heap.size≠R by have:=HRd.out.2;omega)
  have HY:Hid _:=exStore_cell xa fun j=>(hown.1 j).1
  have hlt:=hown.2
  obtain⟨ka,pa,na,ia,da,aa,ca,la⟩:=xa
  obtain⟨W9,hW9⟩:=nw (exStore w1 w.heap.size ⟨ka,pa,na,ia,da,aa,ca,la⟩)
  rw[←hW9] at HP HY
  have HW9:Hid ((((((w1.setCell ⟨w.heap.size,0,none⟩ (.int .u8 ka)).setCell ⟨w.heap.size,1,none⟩ (.int .i64 pa)).setCell ⟨w.heap.size,2,none⟩ (.string na)).setCell ⟨w.heap.size,3,none⟩ (.int .i64 ia)).setCell ⟨w.heap.size,4,none⟩ (.int .i64 da)).setCell ⟨w.heap.size,5,none⟩ (.slice aa la.length ca)=W9):=hW9.symm
  have z0:w1.cell? ⟨w.heap.size,0,none⟩=some (.int .u8 0):=(hown.1 0).1
  have z1:w1.cell? ⟨w.heap.size,1,none⟩=some (.int .i64 0):=(hown.1 1).1
  have z2:w1.cell? ⟨w.heap.size,2,none⟩=some (.string ⟨#[]⟩):=(hown.1 2).1
  have z3:w1.cell? ⟨w.heap.size,3,none⟩=some (.int .i64 0):=(hown.1 3).1
  have z4:w1.cell? ⟨w.heap.size,4,none⟩=some (.int .i64 0):=(hown.1 4).1
  have z5:w1.cell? ⟨w.heap.size,5,none⟩=some (.slice none 0 0):=(hown.1 5).1
  have g0:=(hown.1 0).2
  have g1:=(hown.1 1).2
  have g2:=(hown.1 2).2
  have g3:=(hown.1 3).2
  have g4:=(hown.1 4).2
  have g5:=(hown.1 5).2
  clear hl hg hr1 hE1 hW9 hown
  simp only[Ex.val,Ex.cells]
  go_wp2_with fail
  rw[HW9.out]
  clear z0 z1 z2 z3 z4 z5
  have z0:W9.cell? ⟨w.heap.size,0,none⟩=some (.int .u8 ka):=HY.out 0 (by omega)
  have z1:W9.cell? ⟨w.heap.size,1,none⟩=some (.int .i64 pa):=HY.out 1 (by omega)
  have z2:W9.cell? ⟨w.heap.size,2,none⟩=some (.string na):=HY.out 2 (by omega)
  have z3:W9.cell? ⟨w.heap.size,3,none⟩=some (.int .i64 ia):=HY.out 3 (by omega)
  have z4:W9.cell? ⟨w.heap.size,4,none⟩=some (.int .i64 da):=HY.out 4 (by omega)
  have z5:W9.cell? ⟨w.heap.size,5,none⟩=some (.slice aa la.length ca):=HY.out 5 (by omega)
  refine bodyPost_ret (by simp[results,Tryz.results127,go_sem, *];try rfl) rfl ?_
  exact HP.out
set_option maxRecDepth 100000 in
set_option maxHeartbeats 3200000 in
theorem sum_rd{W0:World}{R:Nat}(n:Nat)(hp:DoesE W0 R 161 (pp n 7))(hlen:∀op ts e t2,pp n 7 op ts=.ok (e,t2)→t2.length≤ts.length):DoesE W0 R 159 (pp (n+1) 6):=by
 intro op ts w hE hrd hns
 obtain⟨w0,hw0⟩:∃w0:World,w0=w.alloc (.cells #[.int .u8 0,.int .i64 0,.string ⟨#[]⟩,.int .i64 0,.int .i64 0,.slice none 0 0] 27):=⟨_,rfl⟩
 have hb0:Below w.heap.size w w0:=by rw[hw0];exact bal _
 have hs0:w0.heap.size=w.heap.size+1:=by rw[hw0];simp
 have ho0:Own w0 w.heap.size:=by rw[hw0];exact Own.made w _ rfl
 have CC:=chain_rd 161 (enters_of Tryz.func161 (by kernel_rfl) rfl) (pp n 7) hp hlen 4 n op ts w0 hE (hrd.below hb0) (pp (n+1) 6 op ts) rfl hns
 have HW0:=hid hw0.symm
 have HB0:Hid _:=hb0
 have HS0:Hid _:=hs0
 have HO0:=hid ho0
 have HRd:Hid (W0.heap.size≤w.heap.size∧R<w.heap.size):=⟨hrd.keeps.size,hrd.lt⟩
 clear hp hlen hE hrd hns hw0 hb0 hs0 ho0
 generalize pp (n+1) 6 op ts=res at CC ⊢
 simp only[rp] at CC ⊢
 go_enter Tryz.func159,Tryz.ntmps159
 go_wp2_with fail
 rw[HW0.out]
 refine CC.mono ?_
 rintro x w1 ⟨hk,hp⟩
 have HK1:=hid ((KeepsB.ofBelow HB0.out).trans hk)
 have HK0:Hid _:=hk
 clear CC hk
 cases res with
 | error er =>
  obtain⟨kk,ee⟩:=er
  obtain⟨rfl,t2,hr2⟩:=hp
  have HR2:Hid _:=hr2
  clear hr2
  go_wp2_with fail
  exact⟨rfl,HK1.out,rfl,t2,HR2.out⟩
 | ok pr =>
  obtain⟨a1,t1⟩:=pr
  obtain⟨⟨v,rfl,xa,rfl,rfl,hl,hg⟩,hr1,hE1⟩:=hp
  have HP:Hid _:=post_ex HRd.out.1 HK1.out hr1 hE1 (hl.mono fun k _ (h:w0.heap.size≤k)=>show w.heap.size<k by have:=HS0.out;omega) hg
  have hown:=HO0.out.keep HK0.out (show w.heap.size≠R by have:=HRd.out.2;omega)
  have HY:Hid _:=exStore_cell xa fun j=>(hown.1 j).1
  have hlt:=hown.2
  obtain⟨ka,pa,na,ia,da,aa,ca,la⟩:=xa
  obtain⟨W9,hW9⟩:=nw (exStore w1 w.heap.size ⟨ka,pa,na,ia,da,aa,ca,la⟩)
  rw[←hW9] at HP HY
  have HW9:Hid ((((((w1.setCell ⟨w.heap.size,0,none⟩ (.int .u8 ka)).setCell ⟨w.heap.size,1,none⟩ (.int .i64 pa)).setCell ⟨w.heap.size,2,none⟩ (.string na)).setCell ⟨w.heap.size,3,none⟩ (.int .i64 ia)).setCell ⟨w.heap.size,4,none⟩ (.int .i64 da)).setCell ⟨w.heap.size,5,none⟩ (.slice aa la.length ca)=W9):=hW9.symm
  have z0:w1.cell? ⟨w.heap.size,0,none⟩=some (.int .u8 0):=(hown.1 0).1
  have z1:w1.cell? ⟨w.heap.size,1,none⟩=some (.int .i64 0):=(hown.1 1).1
  have z2:w1.cell? ⟨w.heap.size,2,none⟩=some (.string ⟨#[]⟩):=(hown.1 2).1
  have z3:w1.cell? ⟨w.heap.size,3,none⟩=some (.int .i64 0):=(hown.1 3).1
  have z4:w1.cell? ⟨w.heap.size,4,none⟩=some (.int .i64 0):=(hown.1 4).1
  have z5:w1.cell? ⟨w.heap.size,5,none⟩=some (.slice none 0 0):=(hown.1 5).1
  have g0:=(hown.1 0).2
  have g1:=(hown.1 1).2
  have g2:=(hown.1 2).2
  have g3:=(hown.1 3).2
  have g4:=(hown.1 4).2
  have g5:=(hown.1 5).2
  clear hl hg hr1 hE1 hW9 hown
  simp only[Ex.val,Ex.cells]
  go_wp2_with fail
  rw[HW9.out]
  clear z0 z1 z2 z3 z4 z5
  have z0:W9.cell? ⟨w.heap.size,0,none⟩=some (.int .u8 ka):=HY.out 0 (by omega)
  have z1:W9.cell? ⟨w.heap.size,1,none⟩=some (.int .i64 pa):=HY.out 1 (by omega)
  have z2:W9.cell? ⟨w.heap.size,2,none⟩=some (.string na):=HY.out 2 (by omega)
  have z3:W9.cell? ⟨w.heap.size,3,none⟩=some (.int .i64 ia):=HY.out 3 (by omega)
  have z4:W9.cell? ⟨w.heap.size,4,none⟩=some (.int .i64 da):=HY.out 4 (by omega)
  have z5:W9.cell? ⟨w.heap.size,5,none⟩=some (.slice aa la.length ca):=HY.out 5 (by omega)
  refine bodyPost_ret (by simp[results,Tryz.results159,go_sem, *];try rfl) rfl ?_
  exact HP.out
set_option maxRecDepth 100000 in
set_option maxHeartbeats 3200000 in
theorem term_rd{W0:World}{R:Nat}(n:Nat)(hp:DoesE W0 R 163 (pp n 8))(hlen:∀op ts e t2,pp n 8 op ts=.ok (e,t2)→t2.length≤ts.length):DoesE W0 R 161 (pp (n+1) 7):=by
 intro op ts w hE hrd hns
 obtain⟨w0,hw0⟩:∃w0:World,w0=w.alloc (.cells #[.int .u8 0,.int .i64 0,.string ⟨#[]⟩,.int .i64 0,.int .i64 0,.slice none 0 0] 27):=⟨_,rfl⟩
 have hb0:Below w.heap.size w w0:=by rw[hw0];exact bal _
 have hs0:w0.heap.size=w.heap.size+1:=by rw[hw0];simp
 have ho0:Own w0 w.heap.size:=by rw[hw0];exact Own.made w _ rfl
 have CC:=chain_rd 163 (enters_of Tryz.func163 (by kernel_rfl) rfl) (pp n 8) hp hlen 5 n op ts w0 hE (hrd.below hb0) (pp (n+1) 7 op ts) rfl hns
 have HW0:=hid hw0.symm
 have HB0:Hid _:=hb0
 have HS0:Hid _:=hs0
 have HO0:=hid ho0
 have HRd:Hid (W0.heap.size≤w.heap.size∧R<w.heap.size):=⟨hrd.keeps.size,hrd.lt⟩
 clear hp hlen hE hrd hns hw0 hb0 hs0 ho0
 generalize pp (n+1) 7 op ts=res at CC ⊢
 simp only[rp] at CC ⊢
 go_enter Tryz.func161,Tryz.ntmps161
 go_wp2_with fail
 rw[HW0.out]
 refine CC.mono ?_
 rintro x w1 ⟨hk,hp⟩
 have HK1:=hid ((KeepsB.ofBelow HB0.out).trans hk)
 have HK0:Hid _:=hk
 clear CC hk
 cases res with
 | error er =>
  obtain⟨kk,ee⟩:=er
  obtain⟨rfl,t2,hr2⟩:=hp
  have HR2:Hid _:=hr2
  clear hr2
  go_wp2_with fail
  exact⟨rfl,HK1.out,rfl,t2,HR2.out⟩
 | ok pr =>
  obtain⟨a1,t1⟩:=pr
  obtain⟨⟨v,rfl,xa,rfl,rfl,hl,hg⟩,hr1,hE1⟩:=hp
  have HP:Hid _:=post_ex HRd.out.1 HK1.out hr1 hE1 (hl.mono fun k _ (h:w0.heap.size≤k)=>show w.heap.size<k by have:=HS0.out;omega) hg
  have hown:=HO0.out.keep HK0.out (show w.heap.size≠R by have:=HRd.out.2;omega)
  have HY:Hid _:=exStore_cell xa fun j=>(hown.1 j).1
  have hlt:=hown.2
  obtain⟨ka,pa,na,ia,da,aa,ca,la⟩:=xa
  obtain⟨W9,hW9⟩:=nw (exStore w1 w.heap.size ⟨ka,pa,na,ia,da,aa,ca,la⟩)
  rw[←hW9] at HP HY
  have HW9:Hid ((((((w1.setCell ⟨w.heap.size,0,none⟩ (.int .u8 ka)).setCell ⟨w.heap.size,1,none⟩ (.int .i64 pa)).setCell ⟨w.heap.size,2,none⟩ (.string na)).setCell ⟨w.heap.size,3,none⟩ (.int .i64 ia)).setCell ⟨w.heap.size,4,none⟩ (.int .i64 da)).setCell ⟨w.heap.size,5,none⟩ (.slice aa la.length ca)=W9):=hW9.symm
  have z0:w1.cell? ⟨w.heap.size,0,none⟩=some (.int .u8 0):=(hown.1 0).1
  have z1:w1.cell? ⟨w.heap.size,1,none⟩=some (.int .i64 0):=(hown.1 1).1
  have z2:w1.cell? ⟨w.heap.size,2,none⟩=some (.string ⟨#[]⟩):=(hown.1 2).1
  have z3:w1.cell? ⟨w.heap.size,3,none⟩=some (.int .i64 0):=(hown.1 3).1
  have z4:w1.cell? ⟨w.heap.size,4,none⟩=some (.int .i64 0):=(hown.1 4).1
  have z5:w1.cell? ⟨w.heap.size,5,none⟩=some (.slice none 0 0):=(hown.1 5).1
  have g0:=(hown.1 0).2
  have g1:=(hown.1 1).2
  have g2:=(hown.1 2).2
  have g3:=(hown.1 3).2
  have g4:=(hown.1 4).2
  have g5:=(hown.1 5).2
  clear hl hg hr1 hE1 hW9 hown
  simp only[Ex.val,Ex.cells]
  go_wp2_with fail
  rw[HW9.out]
  clear z0 z1 z2 z3 z4 z5
  have z0:W9.cell? ⟨w.heap.size,0,none⟩=some (.int .u8 ka):=HY.out 0 (by omega)
  have z1:W9.cell? ⟨w.heap.size,1,none⟩=some (.int .i64 pa):=HY.out 1 (by omega)
  have z2:W9.cell? ⟨w.heap.size,2,none⟩=some (.string na):=HY.out 2 (by omega)
  have z3:W9.cell? ⟨w.heap.size,3,none⟩=some (.int .i64 ia):=HY.out 3 (by omega)
  have z4:W9.cell? ⟨w.heap.size,4,none⟩=some (.int .i64 da):=HY.out 4 (by omega)
  have z5:W9.cell? ⟨w.heap.size,5,none⟩=some (.slice aa la.length ca):=HY.out 5 (by omega)
  refine bodyPost_ret (by simp[results,Tryz.results161,go_sem, *];try rfl) rfl ?_
  exact HP.out
end Go.Proofs.YthbgnpkgglbhjaaGreatDoor
