import Derived.Test.YthbgnpkgglbhjaaGreatDoorLexSt
namespace Go.Proofs.YthbgnpkgglbhjaaGreatDoor
open Go.RowKit
theorem HasWords.keep{w w':World}{b:Nat}(h:HasWords w b)(hb:Below (b+1) w w'):HasWords w' b:=by
 obtain⟨es,clock,hm,rest⟩:=h
 refine⟨es,clock,?_,rest⟩
 rw[hb.block b (by omega)]
 exact hm
theorem grown_below{w w1 w2:World}{B:Nat}{ty:TypeId}{v:Value}{n:Nat}{xs:List Value}{o1 o2:Obj}(hb:Below B w w1)(ho:w1.ownsRow B ty 4 v n xs)(hB:B≤w1.heap.size)(hg:((w1.alloc o1).alloc o2).grownBy w2 v.ownBlock):Below B w w2∧B≤w2.heap.size:=by
 have hsz:=hg.size
 simp at hsz
 exact⟨((hb.alloc hB _).alloc (by simp;omega) _).grown hg (by have:=hb.size;simp;omega) (fun j hj=>(ho.lt j hj).1),by omega⟩
theorem grown_below1{w w1 w2:World}{B:Nat}{ty:TypeId}{v:Value}{n:Nat}{xs:List Value}{o1:Obj}(hb:Below B w w1)(ho:w1.ownsRow B ty 4 v n xs)(hB:B≤w1.heap.size)(hg:(w1.alloc o1).grownBy w2 v.ownBlock):Below B w w2:=by
 exact(hb.alloc hB _).grown hg (by have:=hb.size;simp;omega) (fun j hj=>(ho.lt j hj).1)
def endVal(s:ByteArray):Value:=if (lexOf s).2.2=0 then .nilIface else wrongVal (lexOf s).2.1 (lexOf s).2.2
theorem end_wrong{s:ByteArray}{k:Nat}{er:Int}(h:lexOf s=([],k,er))(hne:er≠0):endVal s=.iface 154 (.agg #[.string ⟨#[110,111,32,116,111,107,101,110,115]⟩,.int .i64 k,.int .i64 er]):=by
 rw[endVal,h]
 exact if_neg hne
theorem end_none{s:ByteArray}{l:List Tok}{k:Nat}(h:lexOf s=(l,k,0)):endVal s=.nilIface:=by
 rw[endVal,h]
 exact if_pos rfl
theorem row_keep{B:Nat}{ty:TypeId}{v:Value}{n:Nat}{xs:List Value}{w w':World}(h:w.ownsRow B ty 4 v n xs)(hb:Below w.heap.size w w'):w'.ownsRow B ty 4 v n xs:=by
 refine⟨h.1,?_⟩
 rcases h.2 with h|⟨g,cap,cur,hv,hb0,hg,rest⟩
 ·exact .inl h
 ·refine .inr ⟨g,cap,cur,hv,hb0,?_,rest⟩
  rw[hb.block g]
  ·exact hg
  ·rcases Nat.lt_or_ge g w.heap.size with hlt|hge
   ·exact hlt
   ·rw[Array.getElem?_eq_none hge] at hg;cases hg
set_option maxHeartbeats 3200000 in
set_option maxRecDepth 100000 in
theorem lexTokens_short(s:ByteArray)(w:World)(hs:s.size≤65536)(hr:RangeVar w) :
  Calls Tryz.prog 50 #[.string s] w fun e w'=>∃v,e=.returned (.tuple #[v,endVal s])∧w'.ownsRow w.heap.size 72 4 v (lexOf s).1.length (toksCells (lexOf s).1)∧Below w.heap.size w w':=by
 have HL:Hid (lexOf s=scanFrom s (afterTo s 0) []):=by rw[Hid,lexOf,if_neg (by omega)]
 obtain⟨i0,hi,hz0,hz1,hz2⟩:=info_parts Tryz.infoToken
 have hq0:decide ((65536:Int)<(s.size:Int))=false:=by simp;omega
 go_enter Tryz.func50,Tryz.ntmps50
 go_wp2_with fail
 refine(clone_calls s _ (by omega)).mono ?_
 rintro e w1 ⟨rfl,hb1⟩
 have HR1:=hid (hr.below hb1)
 have HB1:Hid _:=hb1
 clear hr hb1
 go_wp2_with fail
 refine(progWords_calls _).mono ?_
 rintro e w2 ⟨rfl,hw2,hb2⟩
 have hsz2:=World.ownsMap.lt hw2
 have HW2:=hid hw2
 have HR2:=hid (HR1.out.below hb2)
 have HB2:=hid (HB1.out.trans (hb2.mono HB1.out.size))
 have HB0:=hid (HB1.out.size)
 have HV:Hid (2<w1.heap.size):=by
  obtain⟨ev,h1,-⟩:=HR1.out
  rcases Nat.lt_or_ge 2 w1.heap.size with hlt|hge
  ·exact hlt
  ·simp[World.cell?,Array.getElem?_eq_none hge] at h1
 clear hw2 hb2 HR1 HB1
 go_wp2_with fail
 go_loopw [5,6] (fun v i wr=>∃(k n:Nat)(acc:List Tok)(ao:Option Addr)(cp:Nat),k≤s.size∧n≤16383∧i=.int .i64 k∧v=.slice ao n cp∧Hid (acc.length=n)∧Hid (scanFrom s (afterTo s k) acc=scanFrom s (afterTo s 0) [])∧Hid (wr.ownsRow (w1.heap.size+1) 72 4 v n (toksCells acc))∧Hid (Below (w1.heap.size+1) w2 wr)∧Hid (w1.heap.size+1≤wr.heap.size)) (fun _ i _=>s.size-(intOf i).toNat)
 case atStart=>exact⟨0,0,[],none,0,by omega,by simp,rfl,rfl,rfl,rfl,World.ownsRow_nil _ _ _ _,Below.refl _ _,hsz2⟩
 case round =>
  obtain⟨k,n,acc,ao,cp,hk,hn,rfl,rfl,HN,HS,HO,HBl,HSz⟩:=hrel
  by_cases hlt:k<s.size
  ·have hext:(s.extract k s.size).size≤1048576:=by rw[size_rest];omega
   have CB:=begun_calls (s.extract k s.size) wr hext
   clear hext
   by_cases hgap:blankB (byteAt s k)=true∨hyphensB s k=true
   ·obtain⟨m,e1,e2,e3,e4⟩:=begun_gap hlt hgap
    rw[e1] at CB
    have HE:Hid _:=e4
    clear hgap e1 e4
    go_wp2_with fail
    refine CB.mono ?_
    rintro e w' ⟨rfl,rfl⟩
    clear CB
    go_wp2_with fail
    go_roundw
    case rel=>exact⟨k+m,n,acc,ao,cp,by omega,hn,by go_num,rfl,HN,by rw[Hid,HE.out];exact HS.out,HO,HBl,HSz⟩
    case measure=>simp[intOf];omega
   ·have hb:blankB (byteAt s k)=false:=by
     rcases h:blankB (byteAt s k) with _|_
     ·rfl
     ·exact absurd (Or.inl h) hgap
    have hh:hyphensB s k=false:=by
     rcases h:hyphensB s k with _|_
     ·rfl
     ·exact absurd (Or.inr h) hgap
    obtain⟨kd0,m,kd,tx,nt,er,e1,e2,e3,e4,e5,CR0⟩:=step_tok hlt hb hh (by omega)
    have CR:=CR0 wr w1.heap.size (HW2.out.keep HBl.out) (by
     obtain⟨ev,h1,h2⟩:=HR2.out
     exact⟨ev,(HBl.out.cell (p:=⟨2,0,none⟩) (show 2<w1.heap.size+1 by have:=HV.out;omega)).trans h1,h2⟩)
    have HAF:=hid (afterTo_here hlt hb hh)
    rw[e1] at CB
    have HE4:Hid _:=e4
    have HE5:Hid _:=e5
    clear hgap hb hh CR0 e1 e4 e5
    go_wp2_with fail
    refine CB.mono ?_
    rintro e w' ⟨rfl,rfl⟩
    clear CB
    go_wp2_with fail
    refine CR.mono ?_
    rintro e w3 ⟨rfl,hb3⟩
    clear CR
    have HO1:=hid (row_keep HO.out hb3)
    have HB3:=hid (HBl.out.trans (hb3.mono HSz.out))
    have HS3:=hid (Nat.le_trans HSz.out hb3.size)
    clear hb3 HO HBl HSz
    by_cases her:er=0
    ·subst her
     obtain⟨ht1,hT⟩:=HE4.out rfl
     have HT:Hid _:=hT
     clear hT HE4 HE5
     have hpos:0<m:=by
      have:=(tok_size hlt (by rw[HT.out])).1
      rw[HT.out] at this
      rw[←ht1]
      exact this
     by_cases hfull:n≤16382
     ·have hq:decide ((16384:Int)≤(n:Int)+1)=false:=by simp;omega
      have HF:Hid _:=hfull
      clear hfull
      have HOW:Hid _:=(HO1.out.alloc (.cells #[.int .u8 kd,.string tx,.int .i64 nt,.int .i64 k] 72)).alloc (.cells #[.int .u8 kd,.string tx,.int .i64 nt,.int .i64 k] 72)
      go_wp2_with (at_builtin;refine wpList_append_lies _ rfl _ _ 33 rfl (w1.heap.size+1) 72 i0 _ 4 40 Tryz.underlying33 hi hz0 hz1 hz2 rfl (by decide) _ _ _ rfl HOW.out ⟨w3.heap.size+1,0,none⟩ 1 1 (tokCells ⟨kd,tx,nt,k⟩) rfl rfl ?c1 ?c2 (by decide) ?c3 ?c4 ?c5 _ rfl ?_)
      case c1 =>
       intro j u hj
       have e0:((⟨w3.heap.size+1,0,none⟩:Addr).add j)=⟨w3.heap.size+1,j,none⟩:=by simp[Addr.add];exact fun h=>h.symm
       rw[e0,World.cell?_alloc_at _ _ _ _ (by simp)]
       simpa [tokCells] using hj
      case c2 =>
       intro u hu
       simp only[tokCells,List.mem_cons,List.not_mem_nil,or_false] at hu
       rcases hu with rfl|rfl|rfl|rfl<;>rfl
      case c3=>unfold maxLen;omega
      case c4=>omega
      case c5=>simp;have:=HS3.out;omega
      ·intro g cap w4 hown4 hgrow hat hlt4
       obtain⟨R1,R2⟩:=grown_below HB3.out HO1.out HS3.out hgrow
       have HR1:Hid _:=R1
       have HR2':Hid _:=R2
       have HO4:Hid _:=hown4
       clear R1 R2 hown4 hgrow hat HB3 HO1 HOW HS3
       go_wp2_with fail
       go_roundw
       case rel=>exact⟨k+m,n+1,acc++[⟨kd,tx,nt,k⟩],_,_,e3,by have:=HF.out;omega,by go_num,rfl,by simp[Hid,HN.out],by
        have:=scan_step (acc:=acc) hlt (by rw[HT.out]) (by rw[HN.out];have:=HF.out;omega)
        rw[HT.out] at this
        rw[Hid,←HS.out,HAF.out]
        rw[←this,←ht1],by rw[Hid,toksCells_snoc];exact HO4.out,HR1,HR2'⟩
       case measure=>simp[intOf];omega
     ·have hq:decide ((16384:Int)≤(n:Int)+1)=true:=by simp;omega
      have HF:Hid (16382<n):=by rw[Hid];omega
      clear hfull
      have HE:Hid (lexOf s=([],k,6)):=by rw[Hid,HL.out,←HS.out,HAF.out];exact scan_full hlt (by rw[HT.out]) (by rw[HN.out];have:=HF.out;omega)
      go_wp2_with fail
      refine(fault_calls _ _ _).mono ?_
      rintro e w4 ⟨rfl,hb4⟩
      have HB4:Hid (Below w.heap.size w w4):=by
       have h1:=HB3.out
       have h2:=HS3.out
       have h3:=HB0.out
       have h4:=hb4.mono (show w.heap.size≤_ by simp;omega)
       exact(HB2.out.trans ((h1.mono (by omega)).alloc (by omega) _)).trans h4
      clear hb4
      go_wp2_with fail
      go_ret2
      refine⟨.slice none 0 0,?_,?_,HB4.out⟩
      ·rw[end_wrong HE.out (by decide)]
       rfl
      ·rw[HE.out]
       exact World.ownsRow_nil _ _ _ _
    ·have HE:Hid (lexOf s=([],k,er)):=by
      have h5:=HE5.out her
      rw[Hid,HL.out,←HS.out,HAF.out,scan_wrong hlt (by rw[h5];exact her),h5]
     have her1:=beq_false_of_ne her
     have her2:(er != 0)=true:=by simpa using her
     have HER:Hid _:=her
     clear her hn HE4 HE5
     go_wp2_with fail
     refine(fault_calls _ _ _).mono ?_
     rintro e w4 ⟨rfl,hb4⟩
     have HB4:Hid (Below w.heap.size w w4):=by
      have h1:=HB3.out
      have h2:=HS3.out
      have h3:=HB0.out
      have h4:=hb4.mono (show w.heap.size≤_ by simp;omega)
      exact(HB2.out.trans ((h1.mono (by omega)).alloc (by omega) _)).trans h4
     clear hb4
     go_wp2_with fail
     go_ret2
     refine⟨.slice none 0 0,?_,?_,HB4.out⟩
     ·rw[end_wrong HE.out HER.out]
      rfl
     ·rw[HE.out]
      exact World.ownsRow_nil _ _ _ _
  ·have HE:Hid (lexOf s=(acc++[⟨0,⟨#[]⟩,0,s.size⟩],0,0)):=by
    rw[Hid,HL.out,←HS.out,afterTo_end hlt,scan_end hlt]
   have HOW:Hid _:=HO.out.alloc (.cells #[.int .u8 0,.string ⟨#[]⟩,.int .i64 0,.int .i64 s.size] 72)
   go_wp2_with (at_builtin;refine wpList_append_lies _ rfl _ _ 33 rfl (w1.heap.size+1) 72 i0 _ 4 40 Tryz.underlying33 hi hz0 hz1 hz2 rfl (by decide) _ _ _ rfl HOW.out ⟨wr.heap.size,0,none⟩ 1 1 (tokCells ⟨0,⟨#[]⟩,0,s.size⟩) rfl rfl ?d1 ?d2 (by decide) ?d3 ?d4 ?d5 _ rfl ?_)
   case d1 =>
    intro j u hj
    have e0:((⟨wr.heap.size,0,none⟩:Addr).add j)=⟨wr.heap.size,j,none⟩:=by simp[Addr.add];exact fun h=>h.symm
    rw[e0,World.cell?_alloc_at _ _ _ _ (by simp)]
    simpa [tokCells] using hj
   case d2 =>
    intro u hu
    simp only[tokCells,List.mem_cons,List.not_mem_nil,or_false] at hu
    rcases hu with rfl|rfl|rfl|rfl<;>rfl
   case d3=>unfold maxLen;omega
   case d4=>omega
   case d5=>simp;have:=HSz.out;omega
   ·intro g cap w4 hown4 hgrow hat hlt4
    have R1:=grown_below1 HBl.out HO.out HSz.out hgrow
    have HB4:Hid (Below w.heap.size w w4):=HB2.out.trans (R1.mono (by have:=HB0.out;omega))
    have HO4:Hid _:=hown4
    clear R1 hown4 hgrow hat HBl HO HOW HSz
    go_wp2_with fail
    go_ret2
    rw[end_none HE.out,HE.out]
    refine⟨_,rfl,?_,HB4.out⟩
    have h3:=World.ownsRow.mono HO4.out (show w.heap.size≤w1.heap.size+1 by have:=HB0.out;omega)
    rw[toksCells_snoc,List.length_append,HN.out]
    exact h3
set_option maxHeartbeats 3200000 in
set_option maxRecDepth 100000 in
theorem lexTokens_long(s:ByteArray)(w:World)(hs:65536<s.size)(hm:s.size≤1048576) :
  Calls Tryz.prog 50 #[.string s] w fun e w'=>∃v,e=.returned (.tuple #[v,endVal s])∧w'.ownsRow w.heap.size 72 4 v (lexOf s).1.length (toksCells (lexOf s).1)∧Below w.heap.size w w':=by
 have HE:Hid (lexOf s=([],65536,4)):=by rw[Hid,lexOf,if_pos hs]
 have hq0:decide ((65536:Int)<(s.size:Int))=true:=by simp;omega
 clear hs
 go_enter Tryz.func50,Tryz.ntmps50
 go_wp2_with fail
 refine(fault_calls _ _ _).mono ?_
 rintro e w1 ⟨rfl,hb⟩
 go_wp2_with fail
 go_ret2
 refine⟨.slice none 0 0,?_,?_,hb⟩
 ·rw[end_wrong HE.out (by decide)]
  rfl
 ·rw[HE.out]
  exact World.ownsRow_nil _ _ _ _
theorem lexTokens_calls(s:ByteArray)(w:World)(hm:s.size≤1048576)(hr:RangeVar w) :
  Calls Tryz.prog 50 #[.string s] w fun e w'=>∃v,e=.returned (.tuple #[v,if (lexOf s).2.2=0 then .nilIface else wrongVal (lexOf s).2.1 (lexOf s).2.2])∧w'.ownsRow w.heap.size 72 4 v (lexOf s).1.length (toksCells (lexOf s).1)∧Below w.heap.size w w':=by
 by_cases hs:s.size≤65536
 ·exact lexTokens_short s w hs hr
 ·exact lexTokens_long s w (by omega) hm
end Go.Proofs.YthbgnpkgglbhjaaGreatDoor
