import Derived.Test.YthbgnpkgglbhjaaGreatDoorExAll
import Derived.Deep.RegionHeld3
namespace Go.Proofs.YthbgnpkgglbhjaaGreatDoor
open Go.RowKit
open Ex.size Ex.depth Ex.lies Ex.bulk Ex.good
theorem same_ret{a b:Bool}(h:a=b):Ending.returned (.bool a)=.returned (.bool b):=by rw[h]
def Ex.same:Ex→Ex→Bool
 | .mk kd _ nm it dn _ _ l,.mk kd' _ nm' it' dn' _ _ l'=>(kd==kd')&&(nm.toList==nm'.toList)&&(it==it')&&(dn==dn')&&(l.length==l'.length)&&sames l l'
where sames:List Ex→List Ex→Bool
 | e::r,e'::r'=>e.same e'&&sames r r'
 | [],_=>true
 | _,[]=>true
open Ex.same
theorem sames_at(l l':List Ex)(i:Nat)(h:i<l.length)(h':i<l'.length):sames (l.take (i+1)) (l'.take (i+1))=(sames (l.take i) (l'.take i)&&l[i].same l'[i]):=by
 induction l generalizing l' i with
 | nil=>simp at h
 | cons e r ih =>
  cases l' with
  | nil=>simp at h'
  | cons e' r' =>
   cases i with
   | zero=>simp[sames]
   | succ i =>
    have:=ih r' i (by simpa using h) (by simpa using h')
    simp only[List.take_succ_cons,sames,List.getElem_cons_succ]
    rw[this,Bool.and_assoc]
theorem sames_false(l l':List Ex)(i:Nat)(h:i<l.length)(h':i<l'.length)(g:l[i].same l'[i]=false):sames l l'=false:=by
 induction l generalizing l' i with
 | nil=>simp at h
 | cons e r ih =>
  cases l' with
  | nil=>simp at h'
  | cons e' r' =>
   cases i with
   | zero=>simp only[List.getElem_cons_zero] at g;simp[sames,g]
   | succ i=>simp[sames,ih r' i (by simpa using h) (by simpa using h') (by simpa using g)]
set_option maxRecDepth 100000 in
set_option maxHeartbeats 6400000 in
theorem same_ex(m:Nat):∀(e e':Ex),e.size≤m→e.size≤1048576→e'.size≤1048576→∀w,e.lies w→e'.lies w→Calls Tryz.prog 16 #[e.val,e'.val] w fun x w'=>x=.returned (.bool (e.same e'))∧Below w.heap.size w w':=by
 induction m with
 | zero=>intro e _ h;have:=size_pos e;omega
 | succ m ih =>
  rintro⟨kd,pl,nm,it,dn,a,cap,l⟩ ⟨kd',pl',nm',it',dn',a',cap',l'⟩ hm hbig hbig' w ⟨b,o,hla,hlie⟩ ⟨b',o',hla',hlie'⟩
  obtain⟨n,hn⟩:=nw (l.length)
  obtain⟨n',hn'⟩:∃n',n'=l'.length:=⟨_,rfl⟩
  have HM:Hid (1+sizes l≤m+1):=hm
  have HG:Hid (1+sizes l≤1048576):=hbig
  have HG':Hid (1+sizes l'≤1048576):=hbig'
  have hnb:n≤1048576:=by have h1:=len_sizes l;have:=HG.out;omega
  have hnb':n'≤1048576:=by have h1:=len_sizes l';have:=HG'.out;omega
  clear hm hbig hbig'
  simp only[Ex.val,Ex.cells,Ex.same,List.toArray]
  rw[←hn,←hn']
  have HN:=hid hn
  have HN':=hid hn'
  have HLA:Hid _:=hla
  have HLie:Hid _:=hlie
  have HLA':Hid _:=hla'
  have HLie':Hid _:=hlie'
  have HIH:Hid _:=ih
  clear hn hla hlie ih hn' hla' hlie'
  have ab:Below w.heap.size w ((w.alloc (.cells #[.int .u8 kd,.int .i64 pl,.string nm,.int .i64 it,.int .i64 dn,.slice a n cap] 27)).alloc (.cells #[.int .u8 kd',.int .i64 pl',.string nm',.int .i64 it',.int .i64 dn',.slice a' n' cap'] 27)):=(bal _).alloc (by simp) _
  have AB:Hid _:=ab
  clear ab
  rcases h1:(kd==kd') with _|_
  ·have g1:(kd != kd')=true:=by simp only[bne,h1];rfl
   go_enter Tryz.func16,Tryz.ntmps16
   go_wp2_with fail
   go_ret
   exact⟨rfl,AB.out⟩
  have g1:(kd != kd')=false:=by simp only[bne,h1];rfl
  rcases h2:(nm.toList==nm'.toList) with _|_
  ·go_enter Tryz.func16,Tryz.ntmps16
   go_wp2_with fail
   go_ret
   exact⟨rfl,AB.out⟩
  rcases h3:(it==it') with _|_
  ·have g3:(it != it')=true:=by simp only[bne,h3];rfl
   go_enter Tryz.func16,Tryz.ntmps16
   go_wp2_with fail
   go_ret
   exact⟨rfl,AB.out⟩
  have g3:(it != it')=false:=by simp only[bne,h3];rfl
  rcases h4:(dn==dn') with _|_
  ·have g4:(dn != dn')=true:=by simp only[bne,h4];rfl
   go_enter Tryz.func16,Tryz.ntmps16
   go_wp2_with fail
   go_ret
   exact⟨rfl,AB.out⟩
  have g4:(dn != dn')=false:=by simp only[bne,h4];rfl
  by_cases h5:n=n'
  ·subst h5
   have e5:(n==n)=true:=by simp
   rw[e5]
   clear e5 hnb'
   go_enter Tryz.func16,Tryz.ntmps16
   go_wp2_with fail
   go_loopw [5] (fun i wr=>∃k:Nat,k≤n∧i=.int .i64 k∧Hid (sames (l.take k) (l'.take k)=true)∧wr.cell? ⟨w.heap.size,5,none⟩=some (.slice a n cap)∧wr.cell? ⟨w.heap.size+1,5,none⟩=some (.slice a' n cap')∧w.heap.size+1<wr.heap.size∧Hid (Below w.heap.size w wr)) (fun i _=>n-(intOf i).toNat)
   case atStart=>exact⟨0,by omega,rfl,by simp[Hid,sames],by simp,by simp,by simp,AB.out⟩
   case round =>
    obtain⟨k,hk,rfl,HS,hbox,hbox',hsz,HB⟩:=hrel
    by_cases hlt:k<n
    ·have hkl:k<l.length:=by rw[←HN.out];exact hlt
     have hkl':k<l'.length:=by rw[←HN'.out];exact hlt
     obtain rfl:=HLA.out (by intro h;rw[h] at hkl;simp at hkl)
     obtain rfl:=HLA'.out (by intro h;rw[h] at hkl';simp at hkl')
     obtain⟨hc,hli⟩:=lieAt_get l o k HLie.out hkl
     obtain⟨hc',hli'⟩:=lieAt_get l' o' k HLie'.out hkl'
     have hs3:=size_arg hkl
     have hs3':=size_arg hkl'
     have hblk:b<w.heap.size:=by
      have h0:=hc 0 (by omega)
      cases hx:l[k]
      rw[hx] at h0
      exact World.block_lt_of_cell? w ⟨b,_,none⟩ h0
     have hblk':b'<w.heap.size:=by
      have h0:=hc' 0 (by omega)
      cases hx:l'[k]
      rw[hx] at h0
      exact World.block_lt_of_cell? w ⟨b',_,none⟩ h0
     have hcr:∀j,j<6→wr.cell? ⟨b,o+k*6+j,none⟩=l[k].cells[j]?:=fun j hj=>(HB.out.cell (p:=⟨b,o+k*6+j,none⟩) hblk).trans (hc j hj)
     have hcr':∀j,j<6→wr.cell? ⟨b',o'+k*6+j,none⟩=l'[k].cells[j]?:=fun j hj=>(HB.out.cell (p:=⟨b',o'+k*6+j,none⟩) hblk').trans (hc' j hj)
     have CC:=fun W (hW:Below w.heap.size w W)=>HIH.out l[k] l'[k] (by have:=HM.out;omega) (by have:=HG.out;omega) (by have:=HG'.out;omega) W (lies_below hW _ hli) (lies_below hW _ hli')
     have HF:=hid (sames_false l l' k hkl hkl')
     have HS2:Hid (l[k].same l'[k]=true→sames (l.take (k+1)) (l'.take (k+1))=true):=fun h=>by rw[sames_at l l' k hkl hkl',HS.out,h];rfl
     generalize l[k]=y at hcr CC HF HS2
     generalize l'[k]=y' at hcr' CC HF HS2
     obtain⟨kd1,pl1,nm1,it1,dn1,a1,cap1,l1⟩:=y
     obtain⟨kd2,pl2,nm2,it2,dn2,a2,cap2,l2⟩:=y'
     have c0:wr.cell? ⟨b,o+k*6,none⟩=some (.int .u8 kd1):=hcr 0 (by omega)
     have c1:wr.cell? ⟨b,o+k*6+1,none⟩=some (.int .i64 pl1):=hcr 1 (by omega)
     have c2:wr.cell? ⟨b,o+k*6+2,none⟩=some (.string nm1):=hcr 2 (by omega)
     have c3:wr.cell? ⟨b,o+k*6+3,none⟩=some (.int .i64 it1):=hcr 3 (by omega)
     have c4:wr.cell? ⟨b,o+k*6+4,none⟩=some (.int .i64 dn1):=hcr 4 (by omega)
     have c5:wr.cell? ⟨b,o+k*6+5,none⟩=some (.slice a1 l1.length cap1):=hcr 5 (by omega)
     have d0:wr.cell? ⟨b',o'+k*6,none⟩=some (.int .u8 kd2):=hcr' 0 (by omega)
     have d1:wr.cell? ⟨b',o'+k*6+1,none⟩=some (.int .i64 pl2):=hcr' 1 (by omega)
     have d2:wr.cell? ⟨b',o'+k*6+2,none⟩=some (.string nm2):=hcr' 2 (by omega)
     have d3:wr.cell? ⟨b',o'+k*6+3,none⟩=some (.int .i64 it2):=hcr' 3 (by omega)
     have d4:wr.cell? ⟨b',o'+k*6+4,none⟩=some (.int .i64 dn2):=hcr' 4 (by omega)
     have d5:wr.cell? ⟨b',o'+k*6+5,none⟩=some (.slice a2 l2.length cap2):=hcr' 5 (by omega)
     simp only[Ex.val,Ex.cells,List.toArray] at CC
     generalize Ex.same (.mk kd1 pl1 nm1 it1 dn1 a1 cap1 l1) (.mk kd2 pl2 nm2 it2 dn2 a2 cap2 l2)=z at CC HF HS2
     clear hc hcr hli hs3 hkl hc' hcr' hli' hs3' hkl'
     rcases z with _|_
     ·have HFF:Hid (sames l l'=false):=HF.out rfl
      have i0:(0:Int)≤(k:Int):=by omega
      have i1:(k:Int)<(n:Int):=by omega
      have hb0:b<wr.heap.size:=by have:=HB.out.size;omega
      have hb0':b'<wr.heap.size:=by have:=HB.out.size;omega
      have hb1:w.heap.size<wr.heap.size:=by omega
      go_wp2_with fail
      go_region_held3 (fun w'=>w'.cell? ⟨w.heap.size,5,none⟩=some (.slice (some ⟨b,o,none⟩) n cap)∧w'.cell? ⟨w.heap.size+1,5,none⟩=some (.slice (some ⟨b',o',none⟩) n cap')∧w'.cell? ⟨b,o+k*6,none⟩=some (.int .u8 kd1)∧w'.cell? ⟨b,o+k*6+1,none⟩=some (.int .i64 pl1)∧w'.cell? ⟨b,o+k*6+2,none⟩=some (.string nm1)∧w'.cell? ⟨b,o+k*6+3,none⟩=some (.int .i64 it1)∧w'.cell? ⟨b,o+k*6+4,none⟩=some (.int .i64 dn1)∧w'.cell? ⟨b,o+k*6+5,none⟩=some (.slice a1 l1.length cap1)∧w'.cell? ⟨b',o'+k*6,none⟩=some (.int .u8 kd2)∧w'.cell? ⟨b',o'+k*6+1,none⟩=some (.int .i64 pl2)∧w'.cell? ⟨b',o'+k*6+2,none⟩=some (.string nm2)∧w'.cell? ⟨b',o'+k*6+3,none⟩=some (.int .i64 it2)∧w'.cell? ⟨b',o'+k*6+4,none⟩=some (.int .i64 dn2)∧w'.cell? ⟨b',o'+k*6+5,none⟩=some (.slice a2 l2.length cap2)) (go_simp) ((go_at_call 16;refine(CC _ (by exact⟨HB.out.os,HB.out.tape,HB.out.output,HB.out.size,HB.out.block⟩)).mono ?_;rintro x w2 ⟨rfl,hb2⟩;have hold:=fun bb oo (h:bb<wr.heap.size)=>hb2.cell (p:=⟨bb,oo,none⟩) h))
      have HB2:Hid (Below w.heap.size w w2):=(show Below w.heap.size w (wr.drewN 1) from⟨HB.out.os,HB.out.tape,HB.out.output,HB.out.size,HB.out.block⟩).trans (hb2.mono (by show w.heap.size≤wr.heap.size;omega))
      clear hb2 hold CC
      go_wp2_with fail
      go_ret
      exact⟨same_ret (by rw[HFF.out];simp),HB2.out⟩
     ·have HST:Hid (sames (l.take (k+1)) (l'.take (k+1))=true):=HS2.out rfl
      have i0:(0:Int)≤(k:Int):=by omega
      have i1:(k:Int)<(n:Int):=by omega
      have hb0:b<wr.heap.size:=by have:=HB.out.size;omega
      have hb0':b'<wr.heap.size:=by have:=HB.out.size;omega
      have hb1:w.heap.size<wr.heap.size:=by omega
      go_wp2_with fail
      go_region_held3 (fun w'=>w'.cell? ⟨w.heap.size,5,none⟩=some (.slice (some ⟨b,o,none⟩) n cap)∧w'.cell? ⟨w.heap.size+1,5,none⟩=some (.slice (some ⟨b',o',none⟩) n cap')∧w'.cell? ⟨b,o+k*6,none⟩=some (.int .u8 kd1)∧w'.cell? ⟨b,o+k*6+1,none⟩=some (.int .i64 pl1)∧w'.cell? ⟨b,o+k*6+2,none⟩=some (.string nm1)∧w'.cell? ⟨b,o+k*6+3,none⟩=some (.int .i64 it1)∧w'.cell? ⟨b,o+k*6+4,none⟩=some (.int .i64 dn1)∧w'.cell? ⟨b,o+k*6+5,none⟩=some (.slice a1 l1.length cap1)∧w'.cell? ⟨b',o'+k*6,none⟩=some (.int .u8 kd2)∧w'.cell? ⟨b',o'+k*6+1,none⟩=some (.int .i64 pl2)∧w'.cell? ⟨b',o'+k*6+2,none⟩=some (.string nm2)∧w'.cell? ⟨b',o'+k*6+3,none⟩=some (.int .i64 it2)∧w'.cell? ⟨b',o'+k*6+4,none⟩=some (.int .i64 dn2)∧w'.cell? ⟨b',o'+k*6+5,none⟩=some (.slice a2 l2.length cap2)) (go_simp) ((go_at_call 16;refine(CC _ (by exact⟨HB.out.os,HB.out.tape,HB.out.output,HB.out.size,HB.out.block⟩)).mono ?_;rintro x w2 ⟨rfl,hb2⟩;have hold:=fun bb oo (h:bb<wr.heap.size)=>hb2.cell (p:=⟨bb,oo,none⟩) h))
      have HB2:Hid (Below w.heap.size w w2):=(show Below w.heap.size w (wr.drewN 1) from⟨HB.out.os,HB.out.tape,HB.out.output,HB.out.size,HB.out.block⟩).trans (hb2.mono (by show w.heap.size≤wr.heap.size;omega))
      have hbox2:w2.cell? ⟨w.heap.size,5,none⟩=some (.slice (some ⟨b,o,none⟩) n cap):=(hb2.cell (p:=⟨w.heap.size,5,none⟩) hb1).trans hbox
      have hbox3:w2.cell? ⟨w.heap.size+1,5,none⟩=some (.slice (some ⟨b',o',none⟩) n cap'):=(hb2.cell (p:=⟨w.heap.size+1,5,none⟩) hsz).trans hbox'
      have hsz2:w.heap.size+1<w2.heap.size:=by
       have:wr.heap.size≤w2.heap.size:=hb2.size
       omega
      clear hb2 hold CC c0 c1 c2 c3 c4 c5 d0 d1 d2 d3 d4 d5 hbox hbox' hsz HB hb0 hb0' hb1
      go_wp2_with fail
      go_roundw
      case rel=>exact⟨k+1,by omega,by go_num,HST,hbox2,hbox3,hsz2,HB2⟩
      case measure=>simp[intOf];omega
    ·have HST:Hid (sames l l'=true):=by
      have h1:=HS.out
      rw[List.take_of_length_le (by rw[←HN.out];omega),List.take_of_length_le (by rw[←HN'.out];omega)] at h1
      exact h1
     go_wp2_with fail
     go_ret
     exact⟨same_ret (by rw[HST.out];rfl),HB.out⟩
  ·have e5:=beq_false_of_ne h5
   have e6:((n:Int)==(n':Int))=false:=beq_false_of_ne (by omega)
   have e7:((n:Int) != (n':Int))=true:=by simp only[bne,e6];rfl
   have e8:¬n=n':=h5
   rw[e5]
   clear h5
   go_enter Tryz.func16,Tryz.ntmps16
   go_wp2_with fail
   go_ret
   exact⟨rfl,AB.out⟩
end Go.Proofs.YthbgnpkgglbhjaaGreatDoor
