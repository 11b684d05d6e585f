import Derived.Test.YthbgnpkgglbhjaaGreatDoorProg
import Derived.WalkSmall
import Derived.Deep.AppendLies
import Derived.OwnWalk
import Derived.Laws.OwnMore
import Derived.WalkKit
import Derived.Deep.QuietTactic
import Derived.BigQuiet
import Derived.Shelf.Abstract
import Derived.OneCell
import Derived.Test.YthbgnpkgglbhjaaGreatDoorTreePart
import Derived.OpenShut
namespace Go.Proofs.YthbgnpkgglbhjaaGreatDoor
open Go.RowKit
open Ex.size Ex.depth Ex.lies Ex.bulk Ex.good
structure Fr where
 b:Nat
 o:Nat
 c:Nat
 l:List Ex
 d:Nat
def Fr.cells(f:Fr):List Value:=[.slice (some ⟨f.b,f.o,none⟩) f.l.length f.c,.int .i64 f.d]
def frCells:List Fr→List Value
 | []=>[]
 | f::r=>f.cells++frCells r
def frSizes:List Fr→Nat
 | []=>0
 | f::r=>sizes f.l+frSizes r
theorem frCells_len(fs:List Fr):(frCells fs).length=fs.length*2:=by
 induction fs with
 | nil=>rfl
 | cons f r ih=>simp only[frCells,List.length_append,ih,Fr.cells,List.length_cons,List.length_nil];omega
theorem frCells_app(a b:List Fr):frCells (a++b)=frCells a++frCells b:=by
 induction a with
 | nil=>rfl
 | cons f r ih=>simp only[List.cons_append,frCells,ih,List.append_assoc]
theorem frSizes_app(a b:List Fr):frSizes (a++b)=frSizes a+frSizes b:=by
 induction a with
 | nil=>simp[frSizes]
 | cons f r ih=>simp only[List.cons_append,frSizes,ih];omega
def Fr.fits(f:Fr):Prop:=f.l≠[]∧f.l.length≤f.c∧f.c≤maxLen∧f.d+sizes f.l≤1048577
def fitAll(fs:List Fr):Prop:=∀f∈fs,f.fits
theorem fitAll_app{a b:List Fr}:fitAll (a++b)↔fitAll a∧fitAll b:=by
 simp only[fitAll,List.mem_append]
 exact⟨fun h=>⟨fun f hf=>h f (.inl hf),fun f hf=>h f (.inr hf)⟩,fun h f hf=>hf.elim (h.1 f) (h.2 f)⟩
theorem sizes_pos{l:List Ex}(h:l≠[]):1≤sizes l:=by
 cases l with
 | nil=>exact absurd rfl h
 | cons e r=>have:=size_pos e;simp only[sizes];omega
theorem len_frSizes{fs:List Fr}(h:fitAll fs):fs.length≤frSizes fs:=by
 induction fs with
 | nil=>simp
 | cons f r ih =>
  have h1:=sizes_pos (h f (by simp)).1
  have h2:=ih fun x hx=>h x (by simp[hx])
  simp only[List.length_cons,frSizes]
  omega
def nextFrs(fs:List Fr)(b o c:Nat)(l:List Ex)(d b' o' c':Nat)(args:List Ex):List Fr :=
 (fs++(if l=[] then [] else [⟨b,o+6,c-1,l,d⟩]))++(if args=[] then [] else [⟨b',o',c',args,d+1⟩])
theorem size_of_args(e:Ex):e.size=1+sizes e.args:=by cases e;rfl
theorem frSizes_next(fs:List Fr)(b o c:Nat)(e:Ex)(l:List Ex)(d b' o' c':Nat):frSizes (nextFrs fs b o c l d b' o' c' e.args)+1=frSizes (fs++[⟨b,o,c,e::l,d⟩]):=by
 have h:=size_of_args e
 simp only[nextFrs,frSizes_app,frSizes,sizes]
 split<;>split<;>simp_all [frSizes,sizes]<;>omega
theorem fit_next{fs:List Fr}{b o c:Nat}{e:Ex}{l:List Ex}{d b' o' c':Nat}(h:fitAll (fs++[⟨b,o,c,e::l,d⟩]))(h1:e.args.length≤c')(h2:c'≤maxLen):fitAll (nextFrs fs b o c l d b' o' c' e.args):=by
 obtain⟨ha,hb⟩:=fitAll_app.1 h
 have hf:=hb ⟨b,o,c,e::l,d⟩ (by simp)
 obtain⟨-,f2,f3,f4⟩:=hf
 simp only[sizes,List.length_cons] at f2 f3 f4
 have hs:=size_of_args e
 rw[nextFrs,fitAll_app,fitAll_app]
 refine⟨⟨ha,?_⟩,?_⟩
 ·split
  ·intro f hf;cases hf
  ·rename_i hne
   intro f hf
   rw[List.mem_singleton] at hf
   subst hf
   have:=size_pos e
   exact⟨hne,by show l.length≤c-1;omega,by show c-1≤maxLen;omega,by show d+sizes l≤1048577;omega⟩
 ·split
  ·intro f hf;cases hf
  ·rename_i hne
   intro f hf
   rw[List.mem_singleton] at hf
   subst hf
   exact⟨hne,h1,h2,by show d+1+sizes e.args≤1048577;omega⟩
def keepsLevels(w w':World):Prop:=∀(k:Nat)(cur:Array Value),w.heap[k]?=some (.cells cur 204 (0,0))→w'.heap[k]?=some (.cells cur 204 (0,0))
structure ButLevels(B:Nat)(w w':World):Prop where
 os:w'.os=w.os
 tape:w'.tape=w.tape
 output:w'.output=w.output
 size:w.heap.size≤w'.heap.size
 block:∀k,k<w.heap.size→(k<B∨∀cur,w.heap[k]?≠some (.cells cur 204 (0,0)))→w'.heap[k]?=w.heap[k]?
theorem row_level{w:World}{B n:Nat}{v:Value}{xs:List Value}(h:w.ownsRow B 204 2 v n xs){k:Nat}(hk:v.ownBlock=some k):∃cur,w.heap[k]?=some (.cells cur 204 (0,0)):=by
 rcases h.2 with⟨rfl,_⟩|⟨g,cap,cur,rfl,_,hg,_⟩
 ·cases hk
 ·cases hk
  exact⟨cur,hg⟩
theorem butLevels_grown{B:Nat}{w w':World}{n:Nat}{v:Value}{xs:List Value}(h:w.ownsRow B 204 2 v n xs)(hg:w.grownBy w' v.ownBlock):ButLevels B w w':=by
 refine⟨hg.os,hg.tape,hg.output,hg.size,fun k hk hk2=>hg.block k hk fun e=>?_⟩
 obtain⟨cur,hc⟩:=row_level h e.symm
 have hl:=(h.lt k e.symm).1
 rcases hk2 with h1|h1
 ·omega
 ·exact h1 cur hc
theorem butLevels_alloc{B:Nat}(w:World)(o:Obj):ButLevels B w (w.alloc o):=⟨rfl,rfl,rfl,by simp,fun k hk _=>Below.heap_alloc _ _ _ hk⟩
theorem butLevels_drewN{B:Nat}{w w':World}(h:ButLevels B w w')(n:Nat):ButLevels B w (w'.drewN n):=⟨h.os,h.tape,h.output,h.size,h.block⟩
theorem butLevels_trans{B:Nat}{w w1 w2:World}(h:ButLevels B w w1)(k:ButLevels B w1 w2):ButLevels B w w2 :=
 ⟨k.os.trans h.os,k.tape.trans h.tape,k.output.trans h.output,Nat.le_trans h.size k.size,fun i hi hc=>by
  have e:=h.block i hi hc
  refine(k.block i (Nat.lt_of_lt_of_le hi h.size) ?_).trans e
  rcases hc with hc|hc
  ·exact .inl hc
  ·exact .inr fun cur=>by rw[e];exact hc cur⟩
theorem row_drewN{w:World}{B n:Nat}{v:Value}{xs:List Value}(h:w.ownsRow B 204 2 v n xs)(q:Nat):(w.drewN q).ownsRow B 204 2 v n xs:=h
theorem len_le_sizes(l:List Ex):l.length≤sizes l:=by
 induction l with
 | nil=>simp
 | cons e r ih=>have:=size_pos e;simp only[List.length_cons,sizes];omega
theorem args_few{fs:List Fr}{b o c:Nat}{e:Ex}{l:List Ex}{d:Nat}(h:frSizes (fs++[⟨b,o,c,e::l,d⟩])≤1048576):e.args.length≤1048576:=by
 have h1:=len_le_sizes e.args
 have h2:=size_of_args e
 rw[frSizes_app] at h
 simp only[frSizes,sizes] at h
 omega
theorem row_kept{w w':World}{B n:Nat}{v:Value}{xs:List Value}(h:w.ownsRow B 204 2 v n xs)(hk:keepsLevels w w'):w'.ownsRow B 204 2 v n xs:=by
 refine⟨h.1,?_⟩
 rcases h.2 with h|⟨g,cap,cur,rfl,hb,hg,r⟩
 ·exact .inl h
 ·exact .inr ⟨g,cap,cur,rfl,hb,hk g cur hg,r⟩
theorem row_set(fs:List Fr)(f f':Fr)(hd:f'.d=f.d):(frCells (fs++[f])).set (fs.length*2) (.slice (some ⟨f'.b,f'.o,none⟩) f'.l.length f'.c)=frCells (fs++[f']):=by
 rw[frCells_app,frCells_app,←frCells_len,List.set_append_right _ _ (Nat.le_refl _),Nat.sub_self]
 simp[frCells,Fr.cells,hd]
theorem row_set'(fs:List Fr)(f:Fr)(u:Value):(frCells (fs++[f])).set (fs.length*2) u=frCells fs++[u,.int .i64 f.d]:=by
 rw[frCells_app,←frCells_len,List.set_append_right _ _ (Nat.le_refl _),Nat.sub_self]
 simp[frCells,Fr.cells]
theorem row_cell0{w:World}{B g cap:Nat}(fs:List Fr)(f:Fr)(h:w.ownsRow B 204 2 (.slice (some ⟨g,0,none⟩) (fs.length+1) cap) (fs.length+1) (frCells (fs++[f]))) :
  w.cell? ⟨g,fs.length*2,none⟩=some (.slice (some ⟨f.b,f.o,none⟩) f.l.length f.c)∧w.cell? ⟨g,fs.length*2+1,none⟩=some (.int .i64 f.d):=by
 rw[h.cellAt _ (by omega),h.cellAt _ (by omega),frCells_app,←frCells_len,List.getElem?_append_right (Nat.le_refl _),List.getElem?_append_right (by omega)]
 simp[frCells,Fr.cells]
theorem least_spec{p:Nat→Prop}(h:∃m,p m):p (Classical.epsilon fun m=>p m∧∀k,p k→m≤k)∧∀k,p k→(Classical.epsilon fun m=>p m∧∀k,p k→m≤k)≤k:=by
 have ex:∃m,p m∧∀k,p k→m≤k:=by
  obtain⟨m,hm⟩:=h
  induction m using Nat.strongRecOn with
  | _ m ih =>
   by_cases hlt:∃k,k<m∧p k
   ·obtain⟨k,h1,h2⟩:=hlt
    exact ih k h1 h2
   ·exact⟨m,hm,fun k hk=>Nat.le_of_not_lt fun h=>hlt ⟨k,h,hk⟩⟩
 exact Classical.epsilon_spec ex
theorem Tryz.infoLevel:(Tryz.prog.info? 204).map (fun i=>(i.zero,i.size,i.bytes))=some (some (.agg #[.slice none 0 0,.int .i64 0]),2,32):=by kernel_rfl
def Visits(fn:Nat)(caps:Array Value)(B:Nat)(J:List Fr→World→Prop):Prop :=
 ∀(fs:List Fr)(b o c:Nat)(e:Ex)(l:List Ex)(d:Nat)(w:World),J (fs++[⟨b,o,c,e::l,d⟩]) w→fitAll (fs++[⟨b,o,c,e::l,d⟩])→B≤w.heap.size →
  Calls Tryz.prog fn (#[.pointer (some ⟨b,o,none⟩),.int .i64 d]++caps) w fun x w'=>x=.returned (.tuple #[])∧keepsLevels w w'∧w.heap.size≤w'.heap.size ∧
   ∃a' b' o' c',w'.cell? ⟨b,o+5,none⟩=some (.slice a' e.args.length c')∧(e.args≠[]→a'=some ⟨b',o',none⟩)∧e.args.length≤c'∧c'≤maxLen∧J (nextFrs fs b o c l d b' o' c' e.args) w'
def WalkRel(B:Nat)(J:List Fr→World→Prop)(v:Value)(w:World)(m:Nat):Prop :=
 ∃fs:List Fr,m=frSizes fs∧frSizes fs≤1048576∧fitAll fs∧w.ownsRow B 204 2 v fs.length (frCells fs)∧J fs w∧B≤w.heap.size
set_option maxRecDepth 100000 in
set_option maxHeartbeats 3200000 in
theorem walk_calls(fn:Nat)(caps:Array Value)(J:List Fr→World→Prop)(w:World)(hent:∀args w,(callFunc fn args).run Tryz.prog w=.ok (.enter fn args) w)
  (hstab:∀fs w1 w2,J fs w1→w.heap.size≤w1.heap.size→ButLevels w.heap.size w1 w2→J fs w2)
  (hv:Visits fn caps w.heap.size J)(b o c:Nat)(l:List Ex)(hl:l≠[])(hc:l.length≤c)(hcm:c≤maxLen)(hs:sizes l≤1048576)(hJ:J [⟨b,o,c,l,1⟩] w) :
  Calls Tryz.prog 135 #[.slice (some ⟨b,o,none⟩) l.length c,.func (.func fn) #[] caps] w fun x w'=>x=.returned (.tuple #[])∧J [] w':=by
 obtain⟨i0,hi,hz0',hz1,hz2⟩:=info_parts Tryz.infoLevel
 have HJ:Hid _:=hJ
 have HStab:Hid _:=hstab
 have HV:=hid hv
 have HS:Hid _:=hs
 have HC:Hid _:=hc
 have HCm:Hid _:=hcm
 have HL:Hid _:=hl
 clear hJ hstab hv hs hc hcm hl
 go_enter Tryz.func135,Tryz.ntmps135
 go_wp2_with fail
 go_loopw [4] (fun v wr=>∃m,Hid (WalkRel w.heap.size J v wr m)) (fun v wr=>Classical.epsilon fun m=>Hid (WalkRel w.heap.size J v wr m)∧∀k,Hid (WalkRel w.heap.size J v wr k)→m≤k)
 case atStart =>
  refine⟨_,[⟨b,o,c,l,1⟩],rfl,by have:=HS.out;simpa [frSizes] using this,?_,?_,HStab.out _ _ _ HJ.out (Nat.le_refl _) (butLevels_alloc _ _),by simp⟩
  ·intro f hf
   rw[List.mem_singleton] at hf
   subst hf
   exact⟨HL.out,HC.out,HCm.out,by have:=HS.out;show 1+sizes l≤1048577;omega⟩
  ·exact World.ownsRow_lit w #[.slice (some ⟨b,o,none⟩) l.length c,.int .i64 1] 1 (Nat.le_refl _) (by unfold maxLen;omega) rfl
 case round =>
  obtain⟨h1,h2⟩:=least_spec hrel
  have HM1:Hid _:=h2
  clear hrel h2
  obtain⟨fs,hm,hsz,hfit,hown,hJr,hBr⟩:=h1.out
  have HM:Hid _:=hm
  clear hm
  rcases List.eq_nil_or_concat fs with rfl|⟨fs,f,rfl⟩
  ·have hu:∃a cp,u4=.slice a 0 cp:=by
    rcases hown.2 with⟨rfl,_⟩|⟨g,cap,cur,rfl,_⟩
    ·exact⟨_,_,rfl⟩
    ·exact⟨_,_,rfl⟩
   obtain⟨a,cp,rfl⟩:=hu
   have HJr:Hid _:=hJr
   clear hown hJr HM HM1 h1 hfit hsz
   go_wp2_with fail
   go_end0
   exact⟨rfl,HJr.out⟩
  ·simp only[List.concat_eq_append] at *
   obtain⟨b1,o1,c1,l1,d1⟩:=f
   obtain⟨-,hf1⟩:=fitAll_app.1 hfit
   have hf:=hf1 ⟨b1,o1,c1,l1,d1⟩ (by simp)
   obtain⟨hne,hc1,hc2,hd⟩:=hf
   match l1,hne with
   | e::l1,_ =>
   simp only[List.length_append,List.length_cons,List.length_nil,Nat.zero_add] at hown hc1 hd hc2
   have hshape:∃g cap,u4=.slice (some ⟨g,0,none⟩) (fs.length+1) cap∧w.heap.size≤g∧fs.length+1≤cap∧cap≤maxLen:=by
    rcases hown.2 with⟨_,h0⟩|⟨g,cap,cur,rfl,hg,_,hcc,hcm,_⟩
    ·omega
    ·exact⟨g,cap,rfl,hg,hcc,hcm⟩
   obtain⟨g,cap,rfl,hg,hcap,hcapm⟩:=hshape
   obtain⟨k0,k1⟩:=row_cell0 fs ⟨b1,o1,c1,e::l1,d1⟩ hown
   simp only[List.length_cons] at k0 k1
   have hfz:wr.frozen? ⟨g,fs.length*2,none⟩=false:=hown.frozenAt _
   have hfl:=len_frSizes hfit
   simp only[List.length_append,List.length_cons,List.length_nil,Nat.zero_add] at hfl
   have HFit:=hid hfit
   have HJr:Hid _:=hJr
   have HSz:Hid _:=hsz
   have HBr:Hid _:=hBr
   have HOwn:=hid hown
   have hnn:fs.length≤1048575:=by omega
   clear hf1 hfit hJr hsz hBr hown hfl h1
   by_cases hl1:l1=[]
   ·subst hl1
    by_cases hq:c1=1
    ·subst hq
     have hst:=HOwn.out.stored (fs.length*2) (.slice (some ⟨b1,o1,none⟩) 0 0)
     have hW1:=butLevels_grown HOwn.out hst.2
     have CV:=fun q=>HV.out fs b1 o1 1 e [] d1 ((wr.setCell ⟨g,fs.length*2,none⟩ (.slice (some ⟨b1,o1,none⟩) 0 0)).drewN q) (HStab.out _ _ _ HJr.out HBr.out (butLevels_drewN hW1 q)) HFit.out (Nat.le_trans HBr.out hW1.size)
     have HSz1:Hid _:=hW1.size
     have HRow:Hid ((wr.setCell ⟨g,fs.length*2,none⟩ (.slice (some ⟨b1,o1,none⟩) 0 0)).ownsRow w.heap.size 204 2 (.slice (some ⟨g,0,none⟩) (fs.length) cap) (fs.length) (frCells (fs))):=ownsRow_pop (xs:=frCells fs) (frCells_len fs) (last:=[.slice (some ⟨b1,o1,none⟩) 0 0,.int .i64 d1]) (by have:=hst.1;rw[row_set' fs ⟨b1,o1,1,[e],d1⟩] at this;exact this)
     clear hst hW1 HJr
     go_wp2_with fail
     go_quiet (fail)
     go_wp2_with fail
     refine(CV _).mono ?_
     rintro x w2 ⟨rfl,hkeep,hsz2,a',b',o',c',hcell,ha',hc',hcm',hJ2⟩
     have HRow2:Hid (w2.ownsRow w.heap.size 204 2 (.slice (some ⟨g,0,none⟩) (fs.length) cap) (fs.length) (frCells (fs))):=row_kept (row_drewN HRow.out _) hkeep
     have HB2:=hid (Nat.le_trans (Nat.le_trans HBr.out HSz1.out) hsz2)
     have HJ2:Hid _:=hJ2
     have HFit2:Hid _:=@fit_next fs b1 o1 1 e [] d1 b' o' c' HFit.out hc' hcm'
     have HSizes:Hid _:=frSizes_next fs b1 o1 1 e [] d1 b' o' c'
     have hal:=args_few HSz.out
     have hdd:d1≤1048577:=by have:=size_pos e;simp only[sizes] at hd;omega
     clear CV hkeep hsz2 hJ2 k0 k1 hfz HRow HSz1 HBr HOwn HFit
     by_cases hargs:e.args=[]
     ·have HF:Hid (nextFrs fs b1 o1 1 [] d1 b' o' c' e.args=fs):=by rw[Hid,nextFrs,hargs];simp
      have hal0:e.args.length=0:=by rw[hargs];rfl
      rw[hal0] at hcell
      clear hargs ha' hal hal0 hc' hcm'
      go_wp2_with fail
      have HEnd:Hid (WalkRel w.heap.size J (.slice (some ⟨g,0,none⟩) (fs.length) cap) w2 (frSizes (fs))):=by
       have h1:=HFit2.out
       have h2:=HJ2.out
       have h3:=HSizes.out
       have h4:=HSz.out
       rw[HF.out] at h1 h2 h3
       exact⟨_,rfl,by omega,h1,by simpa using HRow2.out,h2,HB2.out⟩
      go_roundw
      case rel=>exact⟨_,HEnd⟩
      case measure =>
       have h3:=(least_spec ⟨_,HEnd⟩).2 _ HEnd
       have h4:=HSizes.out
       rw[HF.out] at h4
       have h5:=HM.out
       refine Nat.lt_of_le_of_lt h3 (Nat.lt_of_lt_of_eq ?_ h5.symm)
       omega
     ·obtain rfl:=ha' hargs
      have HF:Hid (nextFrs fs b1 o1 1 [] d1 b' o' c' e.args=(fs)++[⟨b',o',c',e.args,d1+1⟩]):=by rw[Hid,nextFrs,if_neg hargs];simp
      have hpos:=List.length_pos_iff.2 hargs
      clear hargs hc' hcm' ha'
      generalize hL:e.args.length=La at *
      have HLa:Hid _:=hL
      clear hL
      go_wp2_with (at_builtin;refine wpList_append_lies _ rfl _ _ 205 rfl w.heap.size 204 i0 _ 2 32 Tryz.underlying205 hi hz0' hz1 hz2 rfl (by decide) _ _ _ rfl (HRow2.out.alloc _) ⟨w2.heap.size,0,none⟩ 1 1 [.slice (some ⟨b',o',none⟩) La c',.int .i64 (d1+1)] rfl rfl (fun j u hj=>by rw[addr_add,Nat.zero_add,World.cell?_alloc_at _ _ _ _ (by simp)];simpa using hj) (fun u hu=>by simp at hu;rcases hu with rfl|rfl<;>rfl) (by decide) (by unfold maxLen;omega) (by omega) (by have:=HB2.out;simp;omega) _ rfl ?_)
      intro g3 cap3 w3 hown3 hgrow hat hlt3
      have hbl:=butLevels_grown (HRow2.out.alloc _) hgrow
      have HJ3:Hid (J (nextFrs fs b1 o1 1 [] d1 b' o' c' e.args) w3):=HStab.out _ _ _ HJ2.out HB2.out (butLevels_trans (butLevels_alloc w2 _) hbl)
      have HB3:Hid (w.heap.size≤w3.heap.size):=by have h1:=hbl.size;have h2:=HB2.out;simp at h1;rw[Hid];omega
      have HRow3:Hid (w3.ownsRow w.heap.size 204 2 (.slice (some ⟨g3,0,none⟩) ((fs.length)+1) cap3) (((fs)++[⟨b',o',c',e.args,d1+1⟩]:List Fr).length) (frCells ((fs)++[⟨b',o',c',e.args,d1+1⟩]))):=by
       rw[Hid,frCells_app]
       have e1:frCells [⟨b',o',c',e.args,d1+1⟩]=[.slice (some ⟨b',o',none⟩) La c',.int .i64 (d1+1)]:=by simp[frCells,Fr.cells,HLa.out]
       rw[e1]
       simpa using hown3
      clear hown3 hgrow hat hlt3 hbl HRow2 HJ2 HB2
      go_wp2_with fail
      have HEnd:Hid (WalkRel w.heap.size J (.slice (some ⟨g3,0,none⟩) ((fs.length)+1) cap3) w3 (frSizes ((fs)++[⟨b',o',c',e.args,d1+1⟩]))):=by
       have h1:=HFit2.out
       have h2:=HJ3.out
       have h3:=HSizes.out
       have h4:=HSz.out
       rw[HF.out] at h1 h2 h3
       exact⟨_,rfl,by omega,h1,HRow3.out,h2,HB3.out⟩
      go_roundw
      case rel=>exact⟨_,HEnd⟩
      case measure =>
       have h3:=(least_spec ⟨_,HEnd⟩).2 _ HEnd
       have h4:=HSizes.out
       rw[HF.out] at h4
       have h5:=HM.out
       refine Nat.lt_of_le_of_lt h3 (Nat.lt_of_lt_of_eq ?_ h5.symm)
       omega
    ·have HQ:2≤c1:=by simp at hc1;omega
     have hst:=HOwn.out.stored (fs.length*2) (.slice (some ⟨b1,o1+6,none⟩) 0 (c1-1))
     have hW1:=butLevels_grown HOwn.out hst.2
     have CV:=fun q=>HV.out fs b1 o1 c1 e [] d1 ((wr.setCell ⟨g,fs.length*2,none⟩ (.slice (some ⟨b1,o1+6,none⟩) 0 (c1-1))).drewN q) (HStab.out _ _ _ HJr.out HBr.out (butLevels_drewN hW1 q)) HFit.out (Nat.le_trans HBr.out hW1.size)
     have HSz1:Hid _:=hW1.size
     have HRow:Hid ((wr.setCell ⟨g,fs.length*2,none⟩ (.slice (some ⟨b1,o1+6,none⟩) 0 (c1-1))).ownsRow w.heap.size 204 2 (.slice (some ⟨g,0,none⟩) (fs.length) cap) (fs.length) (frCells (fs))):=ownsRow_pop (xs:=frCells fs) (frCells_len fs) (last:=[.slice (some ⟨b1,o1+6,none⟩) 0 (c1-1),.int .i64 d1]) (by have:=hst.1;rw[row_set' fs ⟨b1,o1,c1,[e],d1⟩] at this;exact this)
     clear hst hW1 HJr
     go_wp2_with fail
     go_quiet (fail)
     go_wp2_with fail
     refine(CV _).mono ?_
     rintro x w2 ⟨rfl,hkeep,hsz2,a',b',o',c',hcell,ha',hc',hcm',hJ2⟩
     have HRow2:Hid (w2.ownsRow w.heap.size 204 2 (.slice (some ⟨g,0,none⟩) (fs.length) cap) (fs.length) (frCells (fs))):=row_kept (row_drewN HRow.out _) hkeep
     have HB2:=hid (Nat.le_trans (Nat.le_trans HBr.out HSz1.out) hsz2)
     have HJ2:Hid _:=hJ2
     have HFit2:Hid _:=@fit_next fs b1 o1 c1 e [] d1 b' o' c' HFit.out hc' hcm'
     have HSizes:Hid _:=frSizes_next fs b1 o1 c1 e [] d1 b' o' c'
     have hal:=args_few HSz.out
     have hdd:d1≤1048577:=by have:=size_pos e;simp only[sizes] at hd;omega
     clear CV hkeep hsz2 hJ2 k0 k1 hfz HRow HSz1 HBr HOwn HFit
     by_cases hargs:e.args=[]
     ·have HF:Hid (nextFrs fs b1 o1 c1 [] d1 b' o' c' e.args=fs):=by rw[Hid,nextFrs,hargs];simp
      have hal0:e.args.length=0:=by rw[hargs];rfl
      rw[hal0] at hcell
      clear hargs ha' hal hal0 hc' hcm'
      go_wp2_with fail
      have HEnd:Hid (WalkRel w.heap.size J (.slice (some ⟨g,0,none⟩) (fs.length) cap) w2 (frSizes (fs))):=by
       have h1:=HFit2.out
       have h2:=HJ2.out
       have h3:=HSizes.out
       have h4:=HSz.out
       rw[HF.out] at h1 h2 h3
       exact⟨_,rfl,by omega,h1,by simpa using HRow2.out,h2,HB2.out⟩
      go_roundw
      case rel=>exact⟨_,HEnd⟩
      case measure =>
       have h3:=(least_spec ⟨_,HEnd⟩).2 _ HEnd
       have h4:=HSizes.out
       rw[HF.out] at h4
       have h5:=HM.out
       refine Nat.lt_of_le_of_lt h3 (Nat.lt_of_lt_of_eq ?_ h5.symm)
       omega
     ·obtain rfl:=ha' hargs
      have HF:Hid (nextFrs fs b1 o1 c1 [] d1 b' o' c' e.args=(fs)++[⟨b',o',c',e.args,d1+1⟩]):=by rw[Hid,nextFrs,if_neg hargs];simp
      have hpos:=List.length_pos_iff.2 hargs
      clear hargs hc' hcm' ha'
      generalize hL:e.args.length=La at *
      have HLa:Hid _:=hL
      clear hL
      go_wp2_with (at_builtin;refine wpList_append_lies _ rfl _ _ 205 rfl w.heap.size 204 i0 _ 2 32 Tryz.underlying205 hi hz0' hz1 hz2 rfl (by decide) _ _ _ rfl (HRow2.out.alloc _) ⟨w2.heap.size,0,none⟩ 1 1 [.slice (some ⟨b',o',none⟩) La c',.int .i64 (d1+1)] rfl rfl (fun j u hj=>by rw[addr_add,Nat.zero_add,World.cell?_alloc_at _ _ _ _ (by simp)];simpa using hj) (fun u hu=>by simp at hu;rcases hu with rfl|rfl<;>rfl) (by decide) (by unfold maxLen;omega) (by omega) (by have:=HB2.out;simp;omega) _ rfl ?_)
      intro g3 cap3 w3 hown3 hgrow hat hlt3
      have hbl:=butLevels_grown (HRow2.out.alloc _) hgrow
      have HJ3:Hid (J (nextFrs fs b1 o1 c1 [] d1 b' o' c' e.args) w3):=HStab.out _ _ _ HJ2.out HB2.out (butLevels_trans (butLevels_alloc w2 _) hbl)
      have HB3:Hid (w.heap.size≤w3.heap.size):=by have h1:=hbl.size;have h2:=HB2.out;simp at h1;rw[Hid];omega
      have HRow3:Hid (w3.ownsRow w.heap.size 204 2 (.slice (some ⟨g3,0,none⟩) ((fs.length)+1) cap3) (((fs)++[⟨b',o',c',e.args,d1+1⟩]:List Fr).length) (frCells ((fs)++[⟨b',o',c',e.args,d1+1⟩]))):=by
       rw[Hid,frCells_app]
       have e1:frCells [⟨b',o',c',e.args,d1+1⟩]=[.slice (some ⟨b',o',none⟩) La c',.int .i64 (d1+1)]:=by simp[frCells,Fr.cells,HLa.out]
       rw[e1]
       simpa using hown3
      clear hown3 hgrow hat hlt3 hbl HRow2 HJ2 HB2
      go_wp2_with fail
      have HEnd:Hid (WalkRel w.heap.size J (.slice (some ⟨g3,0,none⟩) ((fs.length)+1) cap3) w3 (frSizes ((fs)++[⟨b',o',c',e.args,d1+1⟩]))):=by
       have h1:=HFit2.out
       have h2:=HJ3.out
       have h3:=HSizes.out
       have h4:=HSz.out
       rw[HF.out] at h1 h2 h3
       exact⟨_,rfl,by omega,h1,HRow3.out,h2,HB3.out⟩
      go_roundw
      case rel=>exact⟨_,HEnd⟩
      case measure =>
       have h3:=(least_spec ⟨_,HEnd⟩).2 _ HEnd
       have h4:=HSizes.out
       rw[HF.out] at h4
       have h5:=HM.out
       refine Nat.lt_of_le_of_lt h3 (Nat.lt_of_lt_of_eq ?_ h5.symm)
       omega
   ·have hq:¬c1=1:=by have:=List.length_pos_iff.2 hl1;omega
    have hlp:=List.length_pos_iff.2 hl1
    have HNE:=hid hl1
    clear hl1
    have hst:=HOwn.out.stored (fs.length*2) (.slice (some ⟨b1,o1+6,none⟩) l1.length (c1-1))
    have hW1:=butLevels_grown HOwn.out hst.2
    have CV:=fun q=>HV.out fs b1 o1 c1 e l1 d1 ((wr.setCell ⟨g,fs.length*2,none⟩ (.slice (some ⟨b1,o1+6,none⟩) l1.length (c1-1))).drewN q) (HStab.out _ _ _ HJr.out HBr.out (butLevels_drewN hW1 q)) HFit.out (Nat.le_trans HBr.out hW1.size)
    have HSz1:Hid _:=hW1.size
    have HRow:Hid ((wr.setCell ⟨g,fs.length*2,none⟩ (.slice (some ⟨b1,o1+6,none⟩) l1.length (c1-1))).ownsRow w.heap.size 204 2 (.slice (some ⟨g,0,none⟩) (fs.length+1) cap) (fs.length+1) (frCells (fs++[⟨b1,o1+6,c1-1,l1,d1⟩]))):=by have:=hst.1;rw[row_set fs ⟨b1,o1,c1,e::l1,d1⟩ ⟨b1,o1+6,c1-1,l1,d1⟩ rfl] at this;exact this
    clear hst hW1 HJr
    go_wp2_with fail
    go_quiet (fail)
    go_wp2_with fail
    refine(CV _).mono ?_
    rintro x w2 ⟨rfl,hkeep,hsz2,a',b',o',c',hcell,ha',hc',hcm',hJ2⟩
    have HRow2:Hid (w2.ownsRow w.heap.size 204 2 (.slice (some ⟨g,0,none⟩) (fs.length+1) cap) (fs.length+1) (frCells (fs++[⟨b1,o1+6,c1-1,l1,d1⟩]))):=row_kept (row_drewN HRow.out _) hkeep
    have HB2:=hid (Nat.le_trans (Nat.le_trans HBr.out HSz1.out) hsz2)
    have HJ2:Hid _:=hJ2
    have HFit2:Hid _:=@fit_next fs b1 o1 c1 e l1 d1 b' o' c' HFit.out hc' hcm'
    have HSizes:Hid _:=frSizes_next fs b1 o1 c1 e l1 d1 b' o' c'
    have hal:=args_few HSz.out
    have hdd:d1≤1048577:=by have:=size_pos e;simp only[sizes] at hd;omega
    clear CV hkeep hsz2 hJ2 k0 k1 hfz HRow HSz1 HBr HOwn HFit
    by_cases hargs:e.args=[]
    ·have HF:Hid (nextFrs fs b1 o1 c1 l1 d1 b' o' c' e.args=fs++[⟨b1,o1+6,c1-1,l1,d1⟩]):=by rw[Hid,nextFrs,hargs];rw[if_neg HNE.out]<;>simp
     have hal0:e.args.length=0:=by rw[hargs];rfl
     rw[hal0] at hcell
     clear hargs ha' hal hal0 hc' hcm'
     go_wp2_with fail
     have HEnd:Hid (WalkRel w.heap.size J (.slice (some ⟨g,0,none⟩) (fs.length+1) cap) w2 (frSizes (fs++[⟨b1,o1+6,c1-1,l1,d1⟩]))):=by
      have h1:=HFit2.out
      have h2:=HJ2.out
      have h3:=HSizes.out
      have h4:=HSz.out
      rw[HF.out] at h1 h2 h3
      exact⟨_,rfl,by omega,h1,by simpa using HRow2.out,h2,HB2.out⟩
     go_roundw
     case rel=>exact⟨_,HEnd⟩
     case measure =>
      have h3:=(least_spec ⟨_,HEnd⟩).2 _ HEnd
      have h4:=HSizes.out
      rw[HF.out] at h4
      have h5:=HM.out
      refine Nat.lt_of_le_of_lt h3 (Nat.lt_of_lt_of_eq ?_ h5.symm)
      omega
    ·obtain rfl:=ha' hargs
     have HF:Hid (nextFrs fs b1 o1 c1 l1 d1 b' o' c' e.args=(fs++[⟨b1,o1+6,c1-1,l1,d1⟩])++[⟨b',o',c',e.args,d1+1⟩]):=by rw[Hid,nextFrs,if_neg hargs];rw[if_neg HNE.out]<;>simp
     have hpos:=List.length_pos_iff.2 hargs
     clear hargs hc' hcm' ha'
     generalize hL:e.args.length=La at *
     have HLa:Hid _:=hL
     clear hL
     go_wp2_with (at_builtin;refine wpList_append_lies _ rfl _ _ 205 rfl w.heap.size 204 i0 _ 2 32 Tryz.underlying205 hi hz0' hz1 hz2 rfl (by decide) _ _ _ rfl (HRow2.out.alloc _) ⟨w2.heap.size,0,none⟩ 1 1 [.slice (some ⟨b',o',none⟩) La c',.int .i64 (d1+1)] rfl rfl (fun j u hj=>by rw[addr_add,Nat.zero_add,World.cell?_alloc_at _ _ _ _ (by simp)];simpa using hj) (fun u hu=>by simp at hu;rcases hu with rfl|rfl<;>rfl) (by decide) (by unfold maxLen;omega) (by omega) (by have:=HB2.out;simp;omega) _ rfl ?_)
     intro g3 cap3 w3 hown3 hgrow hat hlt3
     have hbl:=butLevels_grown (HRow2.out.alloc _) hgrow
     have HJ3:Hid (J (nextFrs fs b1 o1 c1 l1 d1 b' o' c' e.args) w3):=HStab.out _ _ _ HJ2.out HB2.out (butLevels_trans (butLevels_alloc w2 _) hbl)
     have HB3:Hid (w.heap.size≤w3.heap.size):=by have h1:=hbl.size;have h2:=HB2.out;simp at h1;rw[Hid];omega
     have HRow3:Hid (w3.ownsRow w.heap.size 204 2 (.slice (some ⟨g3,0,none⟩) ((fs.length+1)+1) cap3) (((fs++[⟨b1,o1+6,c1-1,l1,d1⟩])++[⟨b',o',c',e.args,d1+1⟩]:List Fr).length) (frCells ((fs++[⟨b1,o1+6,c1-1,l1,d1⟩])++[⟨b',o',c',e.args,d1+1⟩]))):=by
      rw[Hid,frCells_app]
      have e1:frCells [⟨b',o',c',e.args,d1+1⟩]=[.slice (some ⟨b',o',none⟩) La c',.int .i64 (d1+1)]:=by simp[frCells,Fr.cells,HLa.out]
      rw[e1]
      simpa using hown3
     clear hown3 hgrow hat hlt3 hbl HRow2 HJ2 HB2
     go_wp2_with fail
     have HEnd:Hid (WalkRel w.heap.size J (.slice (some ⟨g3,0,none⟩) ((fs.length+1)+1) cap3) w3 (frSizes ((fs++[⟨b1,o1+6,c1-1,l1,d1⟩])++[⟨b',o',c',e.args,d1+1⟩]))):=by
      have h1:=HFit2.out
      have h2:=HJ3.out
      have h3:=HSizes.out
      have h4:=HSz.out
      rw[HF.out] at h1 h2 h3
      exact⟨_,rfl,by omega,h1,HRow3.out,h2,HB3.out⟩
     go_roundw
     case rel=>exact⟨_,HEnd⟩
     case measure =>
      have h3:=(least_spec ⟨_,HEnd⟩).2 _ HEnd
      have h4:=HSizes.out
      rw[HF.out] at h4
      have h5:=HM.out
      refine Nat.lt_of_le_of_lt h3 (Nat.lt_of_lt_of_eq ?_ h5.symm)
      omega
end Go.Proofs.YthbgnpkgglbhjaaGreatDoor
namespace Go.Proofs.YthbgnpkgglbhjaaGreatDoor
open Go.RowKit
open Ex.size Ex.depth Ex.lies Ex.bulk Ex.good
def Ex.pre : Nat → Ex → List (Ex × Nat)
 | d,.mk kd pl nm it dn a cap l=>(.mk kd pl nm it dn a cap l,d)::pres (d+1) l
where pres:Nat→List Ex→List (Ex × Nat)
 | _,[]=>[]
 | d,e::r=>e.pre d++pres d r
open Ex.pre
theorem pre_eq(d:Nat)(e:Ex):e.pre d=(e,d)::pres (d+1) e.args:=by cases e;rfl
def frPre:List Fr→List (Ex × Nat)
 | []=>[]
 | f::r=>frPre r++pres f.d f.l
theorem frPre_app (a b : List Fr) : frPre (a ++ b) = frPre b ++ frPre a := by
 induction a with
 | nil=>simp[frPre]
 | cons f r ih=>simp only[List.cons_append,frPre,ih,List.append_assoc]
theorem frPre_next (fs : List Fr) (b o c : Nat) (e : Ex) (l : List Ex) (d b' o' c' : Nat) : frPre (fs ++ [⟨b, o, c, e :: l, d⟩]) = (e, d) :: frPre (nextFrs fs b o c l d b' o' c' e.args) := by
 have h1:frPre (if l=[] then [] else [⟨b,o+6,c-1,l,d⟩])=pres d l:=by
  split
  ·rename_i h;rw[h];rfl
  ·simp[frPre]
 have h2:frPre (if e.args=[] then [] else [⟨b',o',c',e.args,d+1⟩])=pres (d+1) e.args:=by
  split
  ·rename_i h;rw[h];rfl
  ·simp[frPre]
 rw[nextFrs,frPre_app,frPre_app,frPre_app,h1,h2]
 simp[frPre,pres,pre_eq]
structure ButSome(M:Nat→Prop)(B:Nat)(w w':World):Prop where
 os:w'.os=w.os
 tape:w'.tape=w.tape
 output:w'.output=w.output
 size:w.heap.size≤w'.heap.size
 block:∀k,k<B→¬M k→w'.heap[k]?=w.heap[k]?
theorem ButSome.refl(M:Nat→Prop)(B:Nat)(w:World):ButSome M B w w:=⟨rfl,rfl,rfl,Nat.le_refl _,fun _ _ _=>rfl⟩
theorem ButSome.trans{M:Nat→Prop}{B:Nat}{a b c:World}(h:ButSome M B a b)(k:ButSome M B b c):ButSome M B a c :=
 ⟨k.os.trans h.os,k.tape.trans h.tape,k.output.trans h.output,Nat.le_trans h.size k.size,fun i hi hm=>(k.block i hi hm).trans (h.block i hi hm)⟩
theorem ButSome.of_levels{M:Nat→Prop}{B:Nat}{w w':World}(h:ButLevels B w w')(hB:B≤w.heap.size):ButSome M B w w':=⟨h.os,h.tape,h.output,h.size,fun k hk _=>h.block k (by omega) (.inl hk)⟩
theorem ButSome.below{M:Nat→Prop}{B L:Nat}{w w':World}(h:ButSome M B w w')(hL:L≤B)(hM:∀k,M k→L≤k):Below L w w':=⟨h.os,h.tape,h.output,h.size,fun k hk=>h.block k (by omega) fun hm=>by have:=hM k hm;omega⟩
theorem ButSome.cell{M:Nat→Prop}{B:Nat}{w w':World}(h:ButSome M B w w'){b o:Nat}(hb:b<B)(hm:¬M b):w'.cell? ⟨b,o,none⟩=w.cell? ⟨b,o,none⟩:=World.cell?_of_block (h.block b hb hm)
def Fr.still(M:Nat→Prop)(B:Nat)(w1 w0:World)(f:Fr):Prop :=
 f.b<B∧¬M f.b∧(∀i (h:i<f.l.length) j,j<6→w0.cell? ⟨f.b,f.o+i*6+j,none⟩=f.l[i].cells[j]?)∧∀x∈f.l,x.lies w1∧x.good∧x.bulk≤1048576
def Reads{σ:Type}(step:σ→Ex × Nat→σ)(C:σ→World→Prop)(fin:σ)(M:Nat→Prop)(w0:World)(fn:Nat)(caps:Array Value):Prop :=
 ∀(s:σ)(x:Ex)(d b o:Nat)(w:World),C s w→ButSome M w0.heap.size w0 w→b<w0.heap.size→¬M b→(∀j,j<6→w.cell? ⟨b,o+j,none⟩=x.cells[j]?)→x.lies w→x.good→x.bulk≤1048576→d+x.size≤1048577 →
  (∃rest,List.foldl step (step s (x,d)) rest=fin) →
  Calls Tryz.prog fn (#[.pointer (some ⟨b,o,none⟩),.int .i64 d]++caps) w fun r w'=>r=.returned (.tuple #[])∧keepsLevels w w'∧ButSome M w0.heap.size w w'∧C (step s (x,d)) w'
theorem read_walk{σ:Type}(step:σ→Ex × Nat→σ)(C:σ→World→Prop)(s0:σ)(M:Nat→Prop)(w1 w0:World)(fn:Nat)(caps:Array Value)(e:Ex)(r c:Nat)
  (hent:∀args w,(callFunc fn args).run Tryz.prog w=.ok (.enter fn args) w)
  (hb1:Below w1.heap.size w1 w0)(hM:∀k,M k→w1.heap.size≤k)(hC0:C s0 w0)
  (hstab:∀s wa wb,C s wa→w0.heap.size≤wa.heap.size→ButLevels w0.heap.size wa wb→C s wb)
  (hr:r<w0.heap.size)(hrM:¬M r)(hcells:∀j,j<6→w0.cell? ⟨r,j,none⟩=e.cells[j]?)(hlies:e.lies w1)(hgood:e.good)(hbk:e.bulk≤1048576)(hc:1≤c)(hcm:c≤maxLen)
  (hread:Reads step C (List.foldl step s0 (e.pre 1)) M w0 fn caps) :
  Calls Tryz.prog 135 #[.slice (some ⟨r,0,none⟩) 1 c,.func (.func fn) #[] caps] w0 fun x w'=>x=.returned (.tuple #[])∧ButSome M w0.heap.size w0 w'∧C (List.foldl step s0 (e.pre 1)) w':=by
 have key:=walk_calls fn caps (fun fs w=>ButSome M w0.heap.size w0 w∧(∃s,C s w∧List.foldl step s (frPre fs)=List.foldl step s0 (e.pre 1))∧∀f∈fs,f.still M w0.heap.size w1 w0) w0 hent
  (fun fs wa wb hJ hsz hbl=>by
   obtain⟨h1,⟨s,h2,h3⟩,h4⟩:=hJ
   exact⟨h1.trans (.of_levels hbl hsz),⟨s,hstab s wa wb h2 hsz hbl,h3⟩,h4⟩)
  (by
   intro fs b o c e' l d w hJ hfit hB
   obtain⟨h1,⟨s,h2,h3⟩,h4⟩:=hJ
   obtain⟨f1,f2,f3,f4⟩:=h4 ⟨b,o,c,e'::l,d⟩ (by simp)
   have hx:=f4 e' (by simp)
   have hcl:∀j,j<6→w.cell? ⟨b,o+j,none⟩=e'.cells[j]?:=fun j hj=>by
    rw[h1.cell f1 f2]
    have:=f3 0 (by simp) j hj
    simpa using this
   have hbw:Below w1.heap.size w1 w:=hb1.trans (h1.below hb1.size hM)
   have hd:d+e'.size≤1048577:=by
    have:=(hfit ⟨b,o,c,e'::l,d⟩ (by simp)).2.2.2
    simp only[sizes] at this
    omega
   have hfin:∀b' o' c',List.foldl step (step s (e',d)) (frPre (nextFrs fs b o c l d b' o' c' e'.args))=List.foldl step s0 (e.pre 1):=fun b' o' c'=>by
    rw[←h3,frPre_next fs b o c e' l d b' o' c']
    rfl
   refine(hread s e' d b o w h2 h1 f1 f2 hcl (lies_below hbw _ hx.1) hx.2.1 hx.2.2 hd ⟨_,hfin 0 0 0⟩).mono ?_
   rintro x w' ⟨rfl,hk,hbs,hC⟩
   obtain⟨kd,pl,nm,it,dn,a,cap,ar⟩:=e'
   obtain⟨b',o',g1,g2⟩:=hx.1
   obtain⟨⟨-,-,-,-,-,q1,q2⟩,q3⟩:=hx.2.1
   have q4:=hx.2.2
   simp only[Ex.bulk] at q4
   refine⟨rfl,hk,hbs.size,a,b',o',cap,?_,g1,q1,q2,h1.trans hbs,⟨_,hC,hfin b' o' cap⟩,?_⟩
   ·rw[hbs.cell f1 f2]
    exact hcl 5 (by omega)
   ·intro f hf
    rw[nextFrs] at hf
    rcases List.mem_append.1 hf with hf|hf
    ·rcases List.mem_append.1 hf with hf|hf
     ·exact h4 f (by simp[hf])
     ·split at hf
      ·cases hf
      ·rw[List.mem_singleton] at hf
       subst hf
       refine⟨f1,f2,fun i hi j hj=>?_,fun x hx=>f4 x (List.mem_cons_of_mem _ hx)⟩
       have:=f3 (i+1) (by simpa using hi) j hj
       show w0.cell? ⟨b,o+6+i*6+j,none⟩=_
       rw[show o+6+i*6+j=o+(i+1)*6+j by omega]
       exact this
    ·split at hf
     ·cases hf
     ·rename_i hne
      rw[List.mem_singleton] at hf
      subst hf
      have hlt:b'<w1.heap.size:=by
       have h0:=(lieAt_get ar o' 0 g2 (List.length_pos_iff.2 hne)).1 0 (by omega)
       cases hz:ar[0]'(List.length_pos_iff.2 hne)
       rw[hz] at h0
       exact World.block_lt_of_cell? w1 ⟨b',_,none⟩ h0
      refine⟨Nat.lt_of_lt_of_le hlt hb1.size,fun hm=>by have:=hM _ hm;exact absurd hlt (Nat.not_lt.2 this),fun i hi j hj=>?_,fun x hx=>?_⟩
      ·have:=(lieAt_get ar o' i g2 hi).1 j hj
       rw[←this]
       exact hb1.cell (p:=⟨b',_,none⟩) hlt
      ·obtain⟨i,hi,rfl⟩:=List.getElem_of_mem hx
       exact⟨(lieAt_get ar o' i g2 hi).2,goods_get q3 hi,Nat.le_trans (bulk_arg (l:=ar) hi) (by omega)⟩)
  r 0 c [e] (by simp) (by simpa using hc) hcm (by have:=size_bulk e;simp only[sizes];omega)
  ⟨.refl _ _ _,⟨s0,hC0,by simp[frPre,pres]⟩,fun f hf=>by
   rw[List.mem_singleton] at hf
   subst hf
   refine⟨hr,hrM,fun i hi j hj=>?_,fun x hx=>?_⟩
   ·obtain rfl:i=0:=by simpa using hi
    simpa using hcells j hj
   ·rw[List.mem_singleton] at hx
    subst hx
    exact⟨hlies,hgood,hbk⟩⟩
 refine key.mono ?_
 rintro x w' ⟨rfl,h1,⟨s,h2,h3⟩,-⟩
 refine⟨rfl,h1,?_⟩
 rw[←h3]
 exact h2
def msStep(s:Nat × Nat)(x:Ex × Nat):Nat × Nat:=(s.1+1,max s.2 x.2)
theorem ms_fold:∀(e:Ex)(d n m:Nat),d≤m→List.foldl msStep (n,m) (e.pre (d+1))=(n+e.size,max m (d+e.depth))
 | .mk kd pl nm it dn a cap l,d,n,m,h=>by
  rw[pre_eq,List.foldl_cons]
  have:=all l (d+1) (n+1) (max m (d+1)) (by omega)
  simp only[msStep] at this ⊢
  rw[this]
  simp only[Ex.size,Ex.depth,Prod.mk.injEq]
  omega
where all:∀(l:List Ex)(d n m:Nat),d≤m→List.foldl msStep (n,m) (pres (d+1) l)=(n+sizes l,max m (d+deepest l))
 | [],d,n,m,h=>by simp[pres,sizes,deepest];omega
 | e::r,d,n,m,h=>by
  rw[pres,List.foldl_append,ms_fold e d n m h,all r d _ _ (by omega)]
  simp only[sizes,deepest,Prod.mk.injEq]
  omega
theorem ms_all(e:Ex):List.foldl msStep (0,0) (e.pre 1)=(e.size,e.depth):=by
 rw[ms_fold e 0 0 0 (Nat.le_refl _)]
 simp
theorem ms_len(l:List (Ex × Nat)):∀s:Nat × Nat,(List.foldl msStep s l).1=s.1+l.length:=by
 induction l with
 | nil=>simp
 | cons x r ih=>intro s;rw[List.foldl_cons,ih];simp[msStep];omega
theorem two_set{w:World}(a b:Addr)(k:IntKind){x y x' y':Int}(h1:x=x')(h2:y=y'):(w.setCell a (.int k x)).setCell b (.int k y)=(w.setCell a (.int k x')).setCell b (.int k y'):=by rw[h1,h2]
theorem heap_alloc_eq{w:World}{o:Obj}{k:Nat}(h:k=w.heap.size):(w.alloc o).heap[k]?=some o:=by rw[h];exact heap_alloc_new w o
theorem cell_alloc_eq{w:World}{cs:List Value}{t:TypeId}{k j:Nat}(h:k=w.heap.size):(w.alloc (.cells cs.toArray t)).cell? ⟨k,j,none⟩=cs[j]?:=by
 rw[h,World.cell?_alloc_at _ _ _ _ rfl]
 simp
def MsBoxes(c1 c2:Nat)(s:Nat × Nat)(w:World):Prop:=w.heap[c1]?=some (.cells #[.int .i64 s.1] 3 (0,0))∧w.heap[c2]?=some (.cells #[.int .i64 s.2] 3 (0,0))∧s.2≤1048577
set_option maxHeartbeats 800000 in
theorem measure1_calls(p:Value)(d n m c1 c2:Nat)(w:World)(h1:w.heap[c1]?=some (.cells #[.int .i64 n] 3 (0,0)))(h2:w.heap[c2]?=some (.cells #[.int .i64 m] 3 (0,0)))(hne':¬c2=c1)(hn:n≤1048576)(_hm:m≤1048577)(_hd:d≤1048577) :
  Calls Tryz.prog 136 #[p,.int .i64 d,.pointer (some ⟨c1,0,none⟩),.pointer (some ⟨c2,0,none⟩)] w fun r w'=>r=.returned (.tuple #[])∧w'=(w.setCell ⟨c1,0,none⟩ (.int .i64 ((n+1:Nat):Int))).setCell ⟨c2,0,none⟩ (.int .i64 ((max m d:Nat):Int)):=by
 have a1:=cell_of_one h1
 have a2:=cell_of_one h2
 have f1:=free_of_one h1
 have f2:=free_of_one h2
 have H1:Hid _:=h1
 have H2:Hid _:=h2
 clear h1 h2
 go_enter Tryz.func136,Tryz.ntmps136
 go_wp2
 all_goals go_end0
 all_goals exact⟨rfl,two_set _ _ _ (by omega) (by omega)⟩
set_option maxHeartbeats 1600000 in
theorem measure_calls(e:Ex)(hs:e.bulk≤1048576)(hg:e.good)(w:World)(hl:e.lies w):Calls Tryz.prog 122 #[e.val] w fun x w'=>x=.returned (.tuple #[.int .i64 e.size,.int .i64 e.depth])∧Below w.heap.size w w':=by
 obtain⟨W,hW⟩:=nw ((((w.alloc (.cells e.cells.toArray 27)).alloc (.cells #[.int .i64 0] 3)).alloc (.cells #[.int .i64 0] 3)).alloc (.cells e.cells.toArray 27))
 have hWs:W.heap.size=w.heap.size+4:=by rw[hW];simp
 have hbel:Below w.heap.size w W:=by
  rw[hW]
  exact(((bal _).alloc (by simp) _).alloc (by simp;omega) _).alloc (by simp;omega) _
 have hdep:=depth_le e
 have hsb:=size_bulk e
 have CW:=read_walk msStep (MsBoxes (w.heap.size+1) (w.heap.size+2)) (0,0) (fun k=>k=w.heap.size+1∨k=w.heap.size+2) w W 136 #[.pointer (some ⟨w.heap.size+1,0,none⟩),.pointer (some ⟨w.heap.size+2,0,none⟩)] e (w.heap.size+3) 1
  (enters_of Tryz.func136 (by kernel_rfl) rfl) hbel (fun k hk=>by omega)
  ⟨by rw[hW,Below.heap_alloc _ _ _ (by simp),Below.heap_alloc _ _ _ (by simp)];exact heap_alloc_eq (by simp),by rw[hW,Below.heap_alloc _ _ _ (by simp)];exact heap_alloc_eq (by simp),by simp⟩
  (fun s wa wb hC hsz hbl=>by
   obtain⟨h1,h2,h3⟩:=hC
   exact⟨(hbl.block _ (lt_of_block h1) (.inl (by omega))).trans h1,(hbl.block _ (lt_of_block h2) (.inl (by omega))).trans h2,h3⟩)
  (by omega) (by omega) (fun j hj=>by rw[hW];exact cell_alloc_eq (by simp)) hl hg hs (Nat.le_refl _) (by unfold maxLen;omega)
  (by
   intro s x d b o wx hC hbs hb hnM hcells hlies hgood hbk hd hrest
   obtain⟨h1,h2,h3⟩:=hC
   obtain⟨rest,hrest⟩:=hrest
   rw[ms_all] at hrest
   have hr1:=ms_len rest (msStep s (x,d))
   rw[hrest] at hr1
   simp only[msStep] at hr1
   have hsx:=size_pos x
   refine(measure1_calls _ d s.1 s.2 _ _ wx h1 h2 (by omega) (by omega) h3 (by omega)).mono ?_
   rintro r w' ⟨rfl,rfl⟩
   refine⟨rfl,?_,?_,?_⟩
   ·intro k cur hk
    rw[Below.heap_setCell _ _ _ _ (fun e=>by simp only at e;rw[e,h2] at hk;simp at hk),Below.heap_setCell _ _ _ _ (fun e=>by simp only at e;rw[e,h1] at hk;simp at hk)]
    exact hk
   ·refine⟨rfl,rfl,rfl,by simp,fun k hk hm=>?_⟩
    rw[Below.heap_setCell _ _ _ _ (fun e=>hm (.inr e)),Below.heap_setCell _ _ _ _ (fun e=>hm (.inl e))]
   ·refine⟨?_,one_setCell ((Below.heap_setCell _ _ _ _ (by simp)).trans h2),by simp only[msStep];omega⟩
    rw[Below.heap_setCell _ _ _ _ (by simp)]
    exact one_setCell h1)
 rw[ms_all] at CW
 generalize e.size=sz at *
 generalize e.depth=dp at *
 obtain⟨kd,pl,nm,it,dn,a,cap,l⟩:=e
 simp only[Ex.val,Ex.cells,List.toArray] at *
 have HB:Hid _:=hbel
 clear hbel hl hg
 have HWS:Hid _:=hWs
 clear hWs
 subst hW
 go_enter Tryz.func122,Tryz.ntmps122
 go_wp2_with fail
 refine CW.mono ?_
 rintro x w2 ⟨rfl,hbs,h1,h2,h3⟩
 have a1:=cell_of_one h1
 have a2:=cell_of_one h2
 have f1:=free_of_one h1
 have f2:=free_of_one h2
 have HBS:Hid (Below w.heap.size w w2):=HB.out.trans (hbs.below (by have:=HWS.out;omega) (fun k hk=>by omega))
 clear CW hbs h1 h2
 go_wp2_with fail
 go_region
 all_goals go_wp2
 all_goals refine bodyPost_ret (by simp[results,Tryz.results122,go_sem, *];try rfl) rfl ?_
 all_goals refine⟨rfl,?_⟩
 all_goals repeat (first|exact HBS.out|refine Below.setCell ?_ (by show w.heap.size≤_;simp;try omega) _|refine Below.drew ?_|exact Below.trans HBS.out ⟨rfl,rfl,rfl,Nat.le_refl _,fun _ _=>rfl⟩)
open Ex.shape
def okStep(s:Bool)(x:Ex × Nat):Bool:=s&&partOk x.1
theorem ok_fold:∀(e:Ex)(d:Nat)(s:Bool),List.foldl okStep s (e.pre d)=(s&&e.shape)
 | .mk kd pl nm it dn a cap l,d,s=>by
  rw[pre_eq,List.foldl_cons,all l]
  simp only[okStep,partOk,numB,Ex.shape]
  cases s<;>cases argsOkB kd l.length<;>cases nameOkB kd nm<;>cases intOkB kd it<;>cases denOkB kd dn<;>simp
where all:∀(l:List Ex)(d:Nat)(s:Bool),List.foldl okStep s (pres d l)=(s&&shapes l)
 | [],d,s=>by simp[pres,shapes]
 | e::r,d,s=>by
  rw[pres,List.foldl_append,ok_fold e d s,all r]
  simp[shapes,Bool.and_assoc]
def OkBox(c:Nat)(s:Bool)(w:World):Prop:=w.heap[c]?=some (.cells #[.bool s] 4 (0,0))∧HasTab w
theorem len_args_bulk{e:Ex}(h:e.bulk≤1048576):e.args.length≤1048576∧e.nm.size≤1048576:=by
 obtain⟨kd,pl,nm,it,dn,a,cap,l⟩:=e
 simp only[Ex.bulk] at h
 have h1:=len_sizes l
 have h2:=sizes_bulk l
 exact⟨by show l.length≤_;omega,by show nm.size≤_;omega⟩
theorem kept_box{w w2:World}{c:Nat}{u v:Value}{t:TypeId}{B:Nat}(hne:t≠204)(h:w.heap[c]?=some (.cells #[u] t (0,0)))(hb:Below w.heap.size w w2)(hB:B≤w.heap.size) :
  keepsLevels w (w2.setCell ⟨c,0,none⟩ v)∧ButSome (fun k=>k=c) B w (w2.setCell ⟨c,0,none⟩ v)∧(w2.setCell ⟨c,0,none⟩ v).heap[c]?=some (.cells #[v] t (0,0)):=by
 refine⟨fun k cur hk=>?_,⟨hb.os,hb.tape,hb.output,by simpa using hb.size,fun k hk hm=>?_⟩,one_setCell ((hb.block c (lt_of_block h)).trans h)⟩
 ·rw[Below.heap_setCell _ _ _ _ (fun e=>by
   simp only at e
   rw[e,h] at hk
   simp only[Option.some.injEq,Obj.cells.injEq] at hk
   exact hne hk.2.1)]
  exact(hb.block k (lt_of_block hk)).trans hk
 ·rw[Below.heap_setCell _ _ _ _ (fun e=>hm e)]
  exact hb.block k (by omega)
theorem HasTab.some{w w':World}{c B:Nat}(h:HasTab w)(hb:ButSome (fun k=>k=c) B w w')(hc:c≠3)(hB:3<B):HasTab w':=fun k hk=>(hb.cell hB (fun e=>hc e.symm)).trans (h k hk)
set_option maxHeartbeats 1600000 in
theorem exprMay1_calls(x:Ex)(b o c:Nat)(d:Int)(s:Bool)(w:World)(hbx:w.heap[c]?=some (.cells #[.bool s] 4 (0,0)))(ht:HasTab w)(hcl:∀j,j<6→w.cell? ⟨b,o+j,none⟩=x.cells[j]?)(hg:x.good)(hbk:x.bulk≤1048576) :
  Calls Tryz.prog 145 #[.pointer (some ⟨b,o,none⟩),.int .i64 d,.pointer (some ⟨c,0,none⟩)] w fun r w'=>r=.returned (.tuple #[])∧∃w2,Below w.heap.size w w2∧w'=w2.setCell ⟨c,0,none⟩ (.bool (s&&partOk x)):=by
 have a1:=cell_of_one hbx
 have f1:=free_of_one hbx
 have HX:Hid _:=hbx
 clear hbx
 have hk:0≤x.kd∧x.kd≤255:=by cases x;exact bounds_u8 hg.1.1
 obtain⟨hn,hs⟩:=len_args_bulk hbk
 have CP:=partMay_calls x hk.1 hk.2 hn hs w ht
 generalize partOk x=q at *
 obtain⟨kd,pl,nm,it,dn,a,cap,l⟩:=x
 have c0:w.cell? ⟨b,o,none⟩=some (.int .u8 kd):=hcl 0 (by omega)
 have c1:w.cell? ⟨b,o+1,none⟩=some (.int .i64 pl):=hcl 1 (by omega)
 have c2:w.cell? ⟨b,o+2,none⟩=some (.string nm):=hcl 2 (by omega)
 have c3:w.cell? ⟨b,o+3,none⟩=some (.int .i64 it):=hcl 3 (by omega)
 have c4:w.cell? ⟨b,o+4,none⟩=some (.int .i64 dn):=hcl 4 (by omega)
 have c5:w.cell? ⟨b,o+5,none⟩=some (.slice a l.length cap):=hcl 5 (by omega)
 simp only[Ex.val,Ex.cells,List.toArray] at CP
 clear hcl ht hg hbk hk hn hs
 cases s
 ·clear CP
  go_enter Tryz.func145,Tryz.ntmps145
  go_wp2_with fail
  go_end0
  exact⟨rfl,_,Below.refl _ _,rfl⟩
 ·go_enter Tryz.func145,Tryz.ntmps145
  go_wp2_with fail
  refine CP.mono ?_
  rintro r w2 ⟨rfl,hb⟩
  have b2:=(hb.block c (lt_of_block HX.out)).trans HX.out
  have a2:=cell_of_one b2
  have f2:=free_of_one b2
  have HB:Hid _:=hb
  clear hb b2 CP c0 c1 c2 c3 c4 c5 a1 f1
  go_wp2_with fail
  go_end0
  exact⟨rfl,_,HB.out,rfl⟩
set_option maxHeartbeats 1600000 in
theorem exprMay_calls(e:Ex)(hs:e.bulk≤1048576)(hg:e.good)(w:World)(hl:e.lies w)(ht:HasTab w):Calls Tryz.prog 134 #[e.val] w fun x w'=>x=.returned (.bool e.shape)∧Below w.heap.size w w':=by
 have h0:3<w.heap.size:=World.block_lt_of_cell? w ⟨3,0,none⟩ (ht 0 (by omega))
 obtain⟨W,hW⟩:=nw (((w.alloc (.cells e.cells.toArray 27)).alloc (.cells #[.bool true] 4)).alloc (.cells e.cells.toArray 27))
 have hWs:W.heap.size=w.heap.size+3:=by rw[hW];simp
 have hbel:Below w.heap.size w W:=by
  rw[hW]
  exact((bal _).alloc (by simp) _).alloc (by simp;omega) _
 have CW:=read_walk okStep (OkBox (w.heap.size+1)) true (fun k=>k=w.heap.size+1) w W 145 #[.pointer (some ⟨w.heap.size+1,0,none⟩)] e (w.heap.size+2) 1
  (enters_of Tryz.func145 (by kernel_rfl) rfl) hbel (fun k hk=>by omega)
  ⟨by rw[hW,Below.heap_alloc _ _ _ (by simp)];exact heap_alloc_eq (by simp),ht.below hbel⟩
  (fun s wa wb hC hsz hbl=>by
   obtain⟨h1,h2⟩:=hC
   refine⟨(hbl.block _ (lt_of_block h1) (.inl (by omega))).trans h1,fun k hk=>?_⟩
   rw[←h2 k hk]
   exact World.cell?_of_block (hbl.block 3 (by omega) (.inl (by omega))))
  (by omega) (by omega) (fun j hj=>by rw[hW];exact cell_alloc_eq (by simp)) hl hg hs (Nat.le_refl _) (by unfold maxLen;omega)
  (by
   intro s x d b o wx hC hbs hb hnM hcells hlies hgood hbk hd hrest
   obtain⟨h1,h2⟩:=hC
   refine(exprMay1_calls x b o _ d s wx h1 h2 hcells hgood hbk).mono ?_
   rintro r w' ⟨rfl,w2,hb2,rfl⟩
   obtain⟨k1,k2,k3⟩:=kept_box (B:=W.heap.size) (v:=.bool (s&&partOk x)) (by decide) h1 hb2 hbs.size
   exact⟨rfl,k1,k2,k3,h2.some k2 (by omega) (by omega)⟩)
 rw[ok_fold,Bool.true_and] at CW
 generalize e.shape=q at *
 obtain⟨kd,pl,nm,it,dn,a,cap,l⟩:=e
 simp only[Ex.val,Ex.cells,List.toArray] at *
 have HB:Hid _:=hbel
 have HWS:Hid _:=hWs
 clear hbel hl hg hWs ht
 subst hW
 go_enter Tryz.func134,Tryz.ntmps134
 go_wp2_with fail
 refine CW.mono ?_
 rintro x w2 ⟨rfl,hbs,h1,h2⟩
 have a1:=cell_of_one h1
 have HBS:Hid (Below w.heap.size w w2):=HB.out.trans (hbs.below (by have:=HWS.out;omega) (fun k hk=>by omega))
 clear CW hbs h1 h2
 go_wp2_with fail
 go_ret
 exact⟨rfl,HBS.out⟩
end Go.Proofs.YthbgnpkgglbhjaaGreatDoor
