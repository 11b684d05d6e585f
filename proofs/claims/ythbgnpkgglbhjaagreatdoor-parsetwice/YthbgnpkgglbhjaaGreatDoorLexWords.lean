import Derived.Test.YthbgnpkgglbhjaaGreatDoorProg
import Derived.Test.YthbgnpkgglbhjaaGreatDoorLexSome
import Derived.Maps.Own
import Derived.Maps.OwnSet
import Derived.Maps.Views
import Derived.WalkKit
import Derived.Deep.RegionHeld3
namespace Go.Proofs.YthbgnpkgglbhjaaGreatDoor
open Go.RowKit Go.WideMaps Go.Maps
theorem keyLaw:Keyed Tryz.prog 9:=string_keyed Tryz.underlying9
theorem zeroU8(w:World):(zeroValue 5).run Tryz.prog w=.ok (.int .u8 0) w:=by kernel_rfl
def wordsD:DataW Unit:=Maps.setOf (.lit (.int .u8 3)) (wordList.map fun l=>.string l)
def HasWords(w:World)(b:Nat):Prop:=w.ownsMap Tryz.prog 9 (plainElem (H:=Unit) Tryz.prog 5) b 20 wordsD
theorem ins{w:World}{b n:Nat}{D:DataW Unit}(h:w.ownsMap Tryz.prog 9 (plainElem Tryz.prog 5) b n D)(hn:n<100)(l:ByteArray)(hl:l.size≤maxLen):∃w',(Instr.mapUpdate 146 (.map (some b)) (.string l) (.int .u8 3)).run Tryz.prog w=.ok () w'∧w'.ownsMap Tryz.prog 9 (plainElem Tryz.prog 5) b (n+1) (D.put (.string l.data.toList) (.lit (.int .u8 3)))∧w.grownBy w' (some b) :=
 h.update keyLaw Tryz.underlying146 (by unfold maxLen;omega) (keyOf_string_mk Tryz.underlying9 hl) (plainElem_int Tryz.underlying5 (by decide))
set_option maxHeartbeats 3200000 in
set_option maxRecDepth 100000 in
theorem progWords_calls(w:World):Calls Tryz.prog 84 #[] w fun e w'=>e=.returned (.map (some w.heap.size))∧HasWords w' w.heap.size∧Below w.heap.size w w':=by
 have hmm:=@run_makeMap Tryz.prog
 have o0:=World.ownsMap_made (H:=Unit) w Tryz.prog 9 (plainElem Tryz.prog 5)
 have hb0:Below w.heap.size w (w.alloc (.map #[] 0)):=bal _
 obtain⟨w1,r1,o1,g1⟩:=ins o0 (by decide) ⟨#[110,111,100,101]⟩ (by decide)
 have hb1:Below w.heap.size w w1:=hb0.grown g1 hb0.size (fun j hj=>by cases hj;exact Nat.le_refl _)
 clear o0 g1 hb0
 obtain⟨w2,r2,o2,g2⟩:=ins o1 (by decide) ⟨#[102,108,111,119]⟩ (by decide)
 have hb2:Below w.heap.size w w2:=hb1.grown g2 hb1.size (fun j hj=>by cases hj;exact Nat.le_refl _)
 clear o1 g2 hb1
 obtain⟨w3,r3,o3,g3⟩:=ins o2 (by decide) ⟨#[114,101,116,117,114,110,115]⟩ (by decide)
 have hb3:Below w.heap.size w w3:=hb2.grown g3 hb2.size (fun j hj=>by cases hj;exact Nat.le_refl _)
 clear o2 g3 hb2
 obtain⟨w4,r4,o4,g4⟩:=ins o3 (by decide) ⟨#[118,97,114]⟩ (by decide)
 have hb4:Below w.heap.size w w4:=hb3.grown g4 hb3.size (fun j hj=>by cases hj;exact Nat.le_refl _)
 clear o3 g4 hb3
 obtain⟨w5,r5,o5,g5⟩:=ins o4 (by decide) ⟨#[108,101,116]⟩ (by decide)
 have hb5:Below w.heap.size w w5:=hb4.grown g5 hb4.size (fun j hj=>by cases hj;exact Nat.le_refl _)
 clear o4 g5 hb4
 obtain⟨w6,r6,o6,g6⟩:=ins o5 (by decide) ⟨#[116,101,108]⟩ (by decide)
 have hb6:Below w.heap.size w w6:=hb5.grown g6 hb5.size (fun j hj=>by cases hj;exact Nat.le_refl _)
 clear o5 g6 hb5
 obtain⟨w7,r7,o7,g7⟩:=ins o6 (by decide) ⟨#[105,110,116]⟩ (by decide)
 have hb7:Below w.heap.size w w7:=hb6.grown g7 hb6.size (fun j hj=>by cases hj;exact Nat.le_refl _)
 clear o6 g7 hb6
 obtain⟨w8,r8,o8,g8⟩:=ins o7 (by decide) ⟨#[98,111,111,108]⟩ (by decide)
 have hb8:Below w.heap.size w w8:=hb7.grown g8 hb7.size (fun j hj=>by cases hj;exact Nat.le_refl _)
 clear o7 g8 hb7
 obtain⟨w9,r9,o9,g9⟩:=ins o8 (by decide) ⟨#[114,97,116,101]⟩ (by decide)
 have hb9:Below w.heap.size w w9:=hb8.grown g9 hb8.size (fun j hj=>by cases hj;exact Nat.le_refl _)
 clear o8 g9 hb8
 obtain⟨w10,r10,o10,g10⟩:=ins o9 (by decide) ⟨#[100,117,101]⟩ (by decide)
 have hb10:Below w.heap.size w w10:=hb9.grown g10 hb9.size (fun j hj=>by cases hj;exact Nat.le_refl _)
 clear o9 g10 hb9
 obtain⟨w11,r11,o11,g11⟩:=ins o10 (by decide) ⟨#[105,102]⟩ (by decide)
 have hb11:Below w.heap.size w w11:=hb10.grown g11 hb10.size (fun j hj=>by cases hj;exact Nat.le_refl _)
 clear o10 g11 hb10
 obtain⟨w12,r12,o12,g12⟩:=ins o11 (by decide) ⟨#[116,104,101,110]⟩ (by decide)
 have hb12:Below w.heap.size w w12:=hb11.grown g12 hb11.size (fun j hj=>by cases hj;exact Nat.le_refl _)
 clear o11 g12 hb11
 obtain⟨w13,r13,o13,g13⟩:=ins o12 (by decide) ⟨#[101,108,115,101]⟩ (by decide)
 have hb13:Below w.heap.size w w13:=hb12.grown g13 hb12.size (fun j hj=>by cases hj;exact Nat.le_refl _)
 clear o12 g13 hb12
 obtain⟨w14,r14,o14,g14⟩:=ins o13 (by decide) ⟨#[97,110,100]⟩ (by decide)
 have hb14:Below w.heap.size w w14:=hb13.grown g14 hb13.size (fun j hj=>by cases hj;exact Nat.le_refl _)
 clear o13 g14 hb13
 obtain⟨w15,r15,o15,g15⟩:=ins o14 (by decide) ⟨#[111,114]⟩ (by decide)
 have hb15:Below w.heap.size w w15:=hb14.grown g15 hb14.size (fun j hj=>by cases hj;exact Nat.le_refl _)
 clear o14 g15 hb14
 obtain⟨w16,r16,o16,g16⟩:=ins o15 (by decide) ⟨#[110,111,116]⟩ (by decide)
 have hb16:Below w.heap.size w w16:=hb15.grown g16 hb15.size (fun j hj=>by cases hj;exact Nat.le_refl _)
 clear o15 g16 hb15
 obtain⟨w17,r17,o17,g17⟩:=ins o16 (by decide) ⟨#[116,114,117,101]⟩ (by decide)
 have hb17:Below w.heap.size w w17:=hb16.grown g17 hb16.size (fun j hj=>by cases hj;exact Nat.le_refl _)
 clear o16 g17 hb16
 obtain⟨w18,r18,o18,g18⟩:=ins o17 (by decide) ⟨#[102,97,108,115,101]⟩ (by decide)
 have hb18:Below w.heap.size w w18:=hb17.grown g18 hb17.size (fun j hj=>by cases hj;exact Nat.le_refl _)
 clear o17 g18 hb17
 obtain⟨w19,r19,o19,g19⟩:=ins o18 (by decide) ⟨#[102,98,121]⟩ (by decide)
 have hb19:Below w.heap.size w w19:=hb18.grown g19 hb18.size (fun j hj=>by cases hj;exact Nat.le_refl _)
 clear o18 g19 hb18
 obtain⟨w20,r20,o20,g20⟩:=ins o19 (by decide) ⟨#[116,97,105,108]⟩ (by decide)
 have hb20:Below w.heap.size w w20:=hb19.grown g20 hb19.size (fun j hj=>by cases hj;exact Nat.le_refl _)
 clear o19 g20 hb19
 have HO:Hid (HasWords w20 w.heap.size):=o20
 have HB:Hid _:=hb20
 clear o20 hb20
 go_enter Tryz.func84,Tryz.ntmps84
 go_wp2
 go_ret
 exact⟨rfl,HO.out,HB.out⟩
theorem HasWords.below{w w':World}{b:Nat}(h:HasWords w b)(hb:Below w.heap.size w w'):HasWords w' b:=by
 obtain⟨es,clock,hm,rest⟩:=h
 refine⟨es,clock,?_,rest⟩
 rw[hb.block b]
 ·exact hm
 ·rcases Nat.lt_or_ge b w.heap.size with hlt|hge
  ·exact hlt
  ·rw[Array.getElem?_eq_none hge] at hm;cases hm
theorem wordsD_has(s:ByteArray):Maps.has wordsD (.string s.data.toList)=wordB s:=by
 unfold wordsD
 rw[Maps.has_setOf _ _ _ (by intro x hx;obtain⟨l,-,rfl⟩:=List.mem_map.1 hx;trivial)]
 rw[Bool.eq_iff_iff]
 simp only[wordB,decide_eq_true_eq,List.any_eq_true,List.mem_map]
 constructor
 ·rintro⟨x,⟨l,hl,rfl⟩,hx⟩
  have:=WideAt.sameKey_eq hx
  injection this with this
  rw[←this];exact hl
 ·intro h
  refine⟨_,⟨_,h,rfl⟩,?_⟩
  simp[Lit.sameKey]
theorem atKey_fold(u:DataW Unit)(k:Lit)(z:DataW Unit):∀(acc:List Lit)(m:DataW Unit),Maps.IsMap m→(∀x∈acc,WideAt.IsKeyLit x)→(k∈acc∨m.atKey k z=u)→(acc.foldl (fun m x=>m.put x u) m).atKey k z=u
 | [],m,_,_,h=>by
  rcases h with h|h
  ·simp at h
  ·exact h
 | x::r,m,hm,hk,h=>by
  refine atKey_fold u k z r (m.put x u) (hm.put x u) (fun y hy=>hk y (List.mem_cons_of_mem _ hy)) ?_
  by_cases e:k=x
  ·subst e
   exact Or.inr (Maps.atKey_put_same hm (hk _ List.mem_cons_self) u z)
  ·rcases h with h|h
   ·rcases List.mem_cons.1 h with h|h
    ·exact absurd h e
    ·exact Or.inl h
   ·right
    rw[Maps.atKey_put_other e]
    exact h
theorem wordsD_at{s:ByteArray}(h:wordB s=true)(z:DataW Unit):wordsD.atKey (.string s.data.toList) z=.lit (.int .u8 3):=by
 simp only[wordB,decide_eq_true_eq] at h
 exact atKey_fold _ _ z _ _ Maps.isMap_empty (by intro x hx;obtain⟨l,-,rfl⟩:=List.mem_map.1 hx;trivial) (Or.inl (List.mem_map.2 ⟨_,h,rfl⟩))
theorem HasWords.look{w:World}{b:Nat}(h:HasWords w b)(s:ByteArray)(hs:s.size≤maxLen):∃c:Int,(Instr.lookup 146 (.map (some b)) (.string s) true).run Tryz.prog w=.ok (.tuple #[.int .u8 c,.bool (wordB s)]) w∧(wordB s=true→c=3):=by
 obtain⟨v,ps,hrun,hv⟩:=World.ownsMap.look_ok h keyLaw Tryz.underlying146 (zeroU8 w) (plainElem_int (H:=Unit) Tryz.underlying5 (by decide)) (keyOf_string_mk Tryz.underlying9 hs)
 obtain⟨c,rfl,hc,-⟩:=plainElem_int_inv Tryz.underlying5 hv
 rw[wordsD_has] at hrun
 refine⟨c,hrun,fun hw=>?_⟩
 have h1:=congrArg Prod.fst hc
 have h2:=(wordsD_at hw (.lit (.int .u8 0))).symm.trans h1
 exact(Lit.int.inj (DataW.lit.inj h2)).2.symm
set_option maxHeartbeats 1600000 in
theorem lexWord_calls(s:ByteArray)(w:World)(hs:s.size≤maxLen):Calls Tryz.prog 132 #[.string s] w fun e w'=>e=.returned (.bool (wordB s))∧Below w.heap.size w w':=by
 go_enter Tryz.func132,Tryz.ntmps132
 go_wp2_with fail
 refine(progWords_calls _).mono ?_
 rintro e w1 ⟨rfl,hw,hb⟩
 obtain⟨c,hl,-⟩:=hw.look s hs
 have HB:Hid _:=hb
 clear hb hw
 go_wp2
 go_ret
 exact⟨rfl,HB.out⟩
end Go.Proofs.YthbgnpkgglbhjaaGreatDoor
