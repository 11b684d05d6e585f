import Derived.Test.YthbgnpkgglbhjaaGreatDoorProg
import Derived.Test.YthbgnpkgglbhjaaGreatDoorLater
import Derived.Maps.Own
import Derived.Maps.OwnSet
import Derived.Maps.Views
import Derived.WalkKit
import Derived.Below
import Derived.Handy
import Derived.WalkLawsBesides
namespace Go.Proofs.YthbgnpkgglbhjaaGreatDoor
open Go.RowKit Go.WideMaps Go.Maps
theorem sgKey:Keyed Tryz.prog 9:=string_keyed Tryz.underlying9
theorem sgZero(w:World):(zeroValue 157).run Tryz.prog w=.ok (.agg #[.int .u8 0,.int .u8 0]) w:=by kernel_rfl
def sgElem : Value → Option (DataW Unit × List MemPlace)
 | .agg cs=>match cs.toList with
  | [.int .u8 a,.int .u8 b]=>some (.agg [.lit (.int .u8 a),.lit (.int .u8 b)],[])
  | _=>none
 | _=>none
theorem sgElem_inv{v:Value}{z:DataW Unit × List MemPlace}(h:sgElem v=some z):∃a b,v=.agg #[.int .u8 a,.int .u8 b]∧z.1=.agg [.lit (.int .u8 a),.lit (.int .u8 b)]:=by
 unfold sgElem at h
 split at h
 ·rename_i cs
  split at h
  ·rename_i a b hc
   simp only[Option.some.injEq] at h
   subst h
   refine⟨a,b,?_,rfl⟩
   congr 1
   exact Array.toList_inj.1 hc
  ·cases h
 ·cases h
def signTab : List (List UInt8 × Int × Int) := [([102, 98, 121], 0, 21), ([58, 58], 0, 22), ([111, 114], 1, 19), ([97, 110, 100], 2, 18), ([61], 3, 12), ([60, 62], 3, 13), ([60], 3, 14), ([60, 61], 3, 15), ([62], 3, 16), ([62, 61], 3, 17), ([43], 4, 7), ([45], 4, 8), ([42], 5, 9), ([47], 5, 10), ([37], 5, 11), ([42, 94], 6, 24), ([47, 94], 6, 25), ([126, 62], 6, 26)]
def sgVal(x:Int × Int):DataW Unit:=.agg [.lit (.int .u8 x.1),.lit (.int .u8 x.2)]
def sgOf(s:List UInt8):Option (Int × Int):=(signTab.find? fun x=>x.1==s).map (·.2)
def signsD:DataW Unit:=signTab.foldl (fun m x=>m.put (.string x.1) (sgVal x.2)) (.map [])
def HasSigns(w:World)(b:Nat):Prop:=w.ownsMap Tryz.prog 9 sgElem b 18 signsD
theorem sgIns{w:World}{b n:Nat}{D:DataW Unit}(h:w.ownsMap Tryz.prog 9 sgElem b n D)(hn:n<100)(l:ByteArray)(hl:l.size≤maxLen)(r k:Int):∃w',(Instr.mapUpdate 103 (.map (some b)) (.string l) (.agg #[.int .u8 r,.int .u8 k])).run Tryz.prog w=.ok () w'∧w'.ownsMap Tryz.prog 9 sgElem b (n+1) (D.put (.string l.data.toList) (sgVal (r,k)))∧w.grownBy w' (some b) :=
 h.update sgKey Tryz.underlying103 (by unfold maxLen;omega) (keyOf_string_mk Tryz.underlying9 hl) rfl
set_option maxHeartbeats 3200000 in
set_option maxRecDepth 100000 in
theorem signs_calls(w:World):Calls Tryz.prog 53 #[] w fun e w'=>e=.returned (.map (some w.heap.size))∧HasSigns w' w.heap.size∧Below w.heap.size w w'∧w.heap.size<w'.heap.size:=by
 have hmm:=@run_makeMap Tryz.prog
 have o0:=World.ownsMap_made (H:=Unit) w Tryz.prog 9 sgElem
 have hb0:Below w.heap.size w (w.alloc (.map #[] 0)):=bal _
 have hs0:w.heap.size<(w.alloc (.map #[] 0)).heap.size:=by simp
 obtain⟨w1,r1,o1,g1⟩:=sgIns o0 (by decide) ⟨#[102,98,121]⟩ (by decide) 0 21
 have hb1:Below w.heap.size w w1:=hb0.grown g1 hb0.size (fun j hj=>by cases hj;exact Nat.le_refl _)
 have hs1:w.heap.size<w1.heap.size:=Nat.lt_of_lt_of_le hs0 g1.size
 clear o0 g1 hb0 hs0
 obtain⟨w2,r2,o2,g2⟩:=sgIns o1 (by decide) ⟨#[58,58]⟩ (by decide) 0 22
 have hb2:Below w.heap.size w w2:=hb1.grown g2 hb1.size (fun j hj=>by cases hj;exact Nat.le_refl _)
 have hs2:w.heap.size<w2.heap.size:=Nat.lt_of_lt_of_le hs1 g2.size
 clear o1 g2 hb1 hs1
 obtain⟨w3,r3,o3,g3⟩:=sgIns o2 (by decide) ⟨#[111,114]⟩ (by decide) 1 19
 have hb3:Below w.heap.size w w3:=hb2.grown g3 hb2.size (fun j hj=>by cases hj;exact Nat.le_refl _)
 have hs3:w.heap.size<w3.heap.size:=Nat.lt_of_lt_of_le hs2 g3.size
 clear o2 g3 hb2 hs2
 obtain⟨w4,r4,o4,g4⟩:=sgIns o3 (by decide) ⟨#[97,110,100]⟩ (by decide) 2 18
 have hb4:Below w.heap.size w w4:=hb3.grown g4 hb3.size (fun j hj=>by cases hj;exact Nat.le_refl _)
 have hs4:w.heap.size<w4.heap.size:=Nat.lt_of_lt_of_le hs3 g4.size
 clear o3 g4 hb3 hs3
 obtain⟨w5,r5,o5,g5⟩:=sgIns o4 (by decide) ⟨#[61]⟩ (by decide) 3 12
 have hb5:Below w.heap.size w w5:=hb4.grown g5 hb4.size (fun j hj=>by cases hj;exact Nat.le_refl _)
 have hs5:w.heap.size<w5.heap.size:=Nat.lt_of_lt_of_le hs4 g5.size
 clear o4 g5 hb4 hs4
 obtain⟨w6,r6,o6,g6⟩:=sgIns o5 (by decide) ⟨#[60,62]⟩ (by decide) 3 13
 have hb6:Below w.heap.size w w6:=hb5.grown g6 hb5.size (fun j hj=>by cases hj;exact Nat.le_refl _)
 have hs6:w.heap.size<w6.heap.size:=Nat.lt_of_lt_of_le hs5 g6.size
 clear o5 g6 hb5 hs5
 obtain⟨w7,r7,o7,g7⟩:=sgIns o6 (by decide) ⟨#[60]⟩ (by decide) 3 14
 have hb7:Below w.heap.size w w7:=hb6.grown g7 hb6.size (fun j hj=>by cases hj;exact Nat.le_refl _)
 have hs7:w.heap.size<w7.heap.size:=Nat.lt_of_lt_of_le hs6 g7.size
 clear o6 g7 hb6 hs6
 obtain⟨w8,r8,o8,g8⟩:=sgIns o7 (by decide) ⟨#[60,61]⟩ (by decide) 3 15
 have hb8:Below w.heap.size w w8:=hb7.grown g8 hb7.size (fun j hj=>by cases hj;exact Nat.le_refl _)
 have hs8:w.heap.size<w8.heap.size:=Nat.lt_of_lt_of_le hs7 g8.size
 clear o7 g8 hb7 hs7
 obtain⟨w9,r9,o9,g9⟩:=sgIns o8 (by decide) ⟨#[62]⟩ (by decide) 3 16
 have hb9:Below w.heap.size w w9:=hb8.grown g9 hb8.size (fun j hj=>by cases hj;exact Nat.le_refl _)
 have hs9:w.heap.size<w9.heap.size:=Nat.lt_of_lt_of_le hs8 g9.size
 clear o8 g9 hb8 hs8
 obtain⟨w10,r10,o10,g10⟩:=sgIns o9 (by decide) ⟨#[62,61]⟩ (by decide) 3 17
 have hb10:Below w.heap.size w w10:=hb9.grown g10 hb9.size (fun j hj=>by cases hj;exact Nat.le_refl _)
 have hs10:w.heap.size<w10.heap.size:=Nat.lt_of_lt_of_le hs9 g10.size
 clear o9 g10 hb9 hs9
 obtain⟨w11,r11,o11,g11⟩:=sgIns o10 (by decide) ⟨#[43]⟩ (by decide) 4 7
 have hb11:Below w.heap.size w w11:=hb10.grown g11 hb10.size (fun j hj=>by cases hj;exact Nat.le_refl _)
 have hs11:w.heap.size<w11.heap.size:=Nat.lt_of_lt_of_le hs10 g11.size
 clear o10 g11 hb10 hs10
 obtain⟨w12,r12,o12,g12⟩:=sgIns o11 (by decide) ⟨#[45]⟩ (by decide) 4 8
 have hb12:Below w.heap.size w w12:=hb11.grown g12 hb11.size (fun j hj=>by cases hj;exact Nat.le_refl _)
 have hs12:w.heap.size<w12.heap.size:=Nat.lt_of_lt_of_le hs11 g12.size
 clear o11 g12 hb11 hs11
 obtain⟨w13,r13,o13,g13⟩:=sgIns o12 (by decide) ⟨#[42]⟩ (by decide) 5 9
 have hb13:Below w.heap.size w w13:=hb12.grown g13 hb12.size (fun j hj=>by cases hj;exact Nat.le_refl _)
 have hs13:w.heap.size<w13.heap.size:=Nat.lt_of_lt_of_le hs12 g13.size
 clear o12 g13 hb12 hs12
 obtain⟨w14,r14,o14,g14⟩:=sgIns o13 (by decide) ⟨#[47]⟩ (by decide) 5 10
 have hb14:Below w.heap.size w w14:=hb13.grown g14 hb13.size (fun j hj=>by cases hj;exact Nat.le_refl _)
 have hs14:w.heap.size<w14.heap.size:=Nat.lt_of_lt_of_le hs13 g14.size
 clear o13 g14 hb13 hs13
 obtain⟨w15,r15,o15,g15⟩:=sgIns o14 (by decide) ⟨#[37]⟩ (by decide) 5 11
 have hb15:Below w.heap.size w w15:=hb14.grown g15 hb14.size (fun j hj=>by cases hj;exact Nat.le_refl _)
 have hs15:w.heap.size<w15.heap.size:=Nat.lt_of_lt_of_le hs14 g15.size
 clear o14 g15 hb14 hs14
 obtain⟨w16,r16,o16,g16⟩:=sgIns o15 (by decide) ⟨#[42,94]⟩ (by decide) 6 24
 have hb16:Below w.heap.size w w16:=hb15.grown g16 hb15.size (fun j hj=>by cases hj;exact Nat.le_refl _)
 have hs16:w.heap.size<w16.heap.size:=Nat.lt_of_lt_of_le hs15 g16.size
 clear o15 g16 hb15 hs15
 obtain⟨w17,r17,o17,g17⟩:=sgIns o16 (by decide) ⟨#[47,94]⟩ (by decide) 6 25
 have hb17:Below w.heap.size w w17:=hb16.grown g17 hb16.size (fun j hj=>by cases hj;exact Nat.le_refl _)
 have hs17:w.heap.size<w17.heap.size:=Nat.lt_of_lt_of_le hs16 g17.size
 clear o16 g17 hb16 hs16
 obtain⟨w18,r18,o18,g18⟩:=sgIns o17 (by decide) ⟨#[126,62]⟩ (by decide) 6 26
 have hb18:Below w.heap.size w w18:=hb17.grown g18 hb17.size (fun j hj=>by cases hj;exact Nat.le_refl _)
 have hs18:w.heap.size<w18.heap.size:=Nat.lt_of_lt_of_le hs17 g18.size
 clear o17 g18 hb17 hs17
 have HO:Hid (HasSigns w18 w.heap.size):=o18
 have HB:Hid _:=hb18
 have HS:Hid _:=hs18
 clear o18 hb18 hs18
 go_enter Tryz.func53,Tryz.ntmps53
 go_wp2
 go_ret
 exact⟨rfl,HO.out,HB.out,HS.out⟩
theorem HasSigns.keep{w w':World}{b:Nat}(h:HasSigns w b)(hb:w'.heap[b]?=w.heap[b]?):HasSigns w' b:=by
 obtain⟨es,clock,hm,rest⟩:=h
 exact⟨es,clock,hb.trans hm,rest⟩
theorem HasSigns.lt{w:World}{b:Nat}(h:HasSigns w b):b<w.heap.size:=by
 obtain⟨es,clock,hm,rest⟩:=h
 rcases Nat.lt_or_ge b w.heap.size with hlt|hge
 ·exact hlt
 ·rw[Array.getElem?_eq_none hge] at hm;cases hm
theorem has_fold(s:List UInt8):∀(L:List (List UInt8 × Int × Int))(m:DataW Unit),Maps.IsMap m→Maps.has (L.foldl (fun m x=>m.put (.string x.1) (sgVal x.2)) m) (.string s)=((L.any fun x=>x.1==s)||Maps.has m (.string s))
 | [],m,_=>by simp
 | x::r,m,hm=>by
  rw[List.foldl_cons,has_fold s r _ (hm.put _ _),List.any_cons]
  have:Maps.has (m.put (.string x.1) (sgVal x.2)) (.string s)=((x.1==s)||Maps.has m (.string s)):=by
   by_cases e:x.1=s
   ·subst e
    rw[Maps.has_put_same hm (show WideAt.IsKeyLit (.string _) from trivial)]
    simp
   ·rw[Maps.has_put_other (fun h=>e (by injection h with h;exact h.symm))]
    simp[e]
  rw[this]
  cases (x.1==s)<;>cases (r.any fun x=>x.1==s)<;>cases Maps.has m (.string s)<;>rfl
theorem signs_has(s:List UInt8):Maps.has signsD (.string s)=(sgOf s).isSome:=by
 unfold signsD
 rw[has_fold s _ _ Maps.isMap_empty]
 have h:Maps.has (.map []:DataW Unit) (.string s)=false:=rfl
 rw[h,Bool.or_false,sgOf,Option.isSome_map,Bool.eq_iff_iff,List.find?_isSome,List.any_eq_true]
theorem signs_at : ∀ x ∈ signTab, signsD.atKey (.string x.1) (sgVal (0, 0)) = sgVal x.2 := by
 intro x hx
 simp only[signTab,List.mem_cons,List.not_mem_nil,or_false] at hx
 rcases hx with rfl|rfl|rfl|rfl|rfl|rfl|rfl|rfl|rfl|rfl|rfl|rfl|rfl|rfl|rfl|rfl|rfl|rfl<;>kernel_rfl
theorem HasSigns.look{w:World}{b:Nat}(h:HasSigns w b)(s:ByteArray)(hs:s.size≤maxLen):∃x y:Int,(Instr.lookup 103 (.map (some b)) (.string s) true).run Tryz.prog w=.ok (.tuple #[.agg #[.int .u8 x,.int .u8 y],.bool (sgOf s.data.toList).isSome]) w∧∀r k,sgOf s.data.toList=some (r,k)→x=r∧y=k:=by
 obtain⟨v,ps,hrun,hv⟩:=World.ownsMap.look_ok h sgKey Tryz.underlying103 (sgZero w) (zd:=sgVal (0,0)) (zp:=[]) rfl (keyOf_string_mk Tryz.underlying9 hs)
 rw[signs_has] at hrun
 obtain⟨a,c,rfl,hz⟩:=sgElem_inv hv
 refine⟨a,c,hrun,fun r k hrk=>?_⟩
 obtain⟨x,hx,hx2⟩:=Option.map_eq_some_iff.1 hrk
 have h1:=List.mem_of_find?_eq_some hx
 have h2:=List.find?_some hx
 have h3:x.1=s.data.toList:=by simpa using h2
 rw[←h3,signs_at x h1,hx2] at hz
 simp only[sgVal,DataW.agg.injEq,List.cons.injEq,DataW.lit.injEq,Lit.int.injEq,true_and,and_true] at hz
 exact⟨hz.1.symm,hz.2.symm⟩
end Go.Proofs.YthbgnpkgglbhjaaGreatDoor
