import Derived.Test.YthbgnpkgglbhjaaGreatDoorProg
import Derived.Test.YthbgnpkgglbhjaaGreatDoorLexPlain
import Derived.WalkKit
import Derived.Deep.QuietTactic
import Derived.BigQuiet
namespace Go.Proofs.YthbgnpkgglbhjaaGreatDoor
open Go.RowKit
theorem letter_calls(c:Int)(w:World):Calls Tryz.prog 45 #[.int .u8 c] w fun e w'=>e=.returned (.bool (letterB c))∧w'=w:=by
 have hl:letterB c=decide ((65≤c∧c≤90)∨(97≤c∧c≤122)∨c=95):=rfl
 have HL:Hid _:=hl
 clear hl
 go_enter Tryz.func45,Tryz.ntmps45
 go_wp2
 all_goals
  go_ret
  refine⟨?_,rfl⟩
  rw[HL.out]
  try (refine congrArg (fun b=>Ending.returned (.bool b)) ?_)
  rw[Bool.eq_iff_iff]
  simp
  try omega
theorem digit_calls(c:Int)(w:World):Calls Tryz.prog 46 #[.int .u8 c] w fun e w'=>e=.returned (.bool (digitB c))∧w'=w:=by
 have hl:digitB c=decide (48≤c∧c≤57):=rfl
 have HL:Hid _:=hl
 clear hl
 go_enter Tryz.func46,Tryz.ntmps46
 go_wp2
 all_goals
  go_ret
  refine⟨?_,rfl⟩
  rw[HL.out]
  try (refine congrArg (fun b=>Ending.returned (.bool b)) ?_)
  rw[Bool.eq_iff_iff]
  simp
  try omega
def wordsObj : Obj := .cells (wordTexts.map Value.string).toArray 9
set_option maxHeartbeats 800000 in
theorem words_calls(w:World):Calls Tryz.prog 81 #[] w fun e w'=>e=.returned (.slice (some ⟨w.heap.size,0,none⟩) 20 20)∧w'=w.alloc wordsObj:=by
 go_enter Tryz.func81,Tryz.ntmps81
 go_wp2
 go_ret
 exact⟨rfl,rfl⟩
set_option maxHeartbeats 800000 in
theorem in_calls(l:List ByteArray)(b:Nat)(s:ByteArray)(w:World)(hl:∀k,(h:k<l.length)→w.cell? ⟨b,k,none⟩=some (.string l[k]))(h0:l.length≤1000):Calls Tryz.prog 80 #[.slice (some ⟨b,0,none⟩) l.length l.length,.string s] w fun e w'=>e=.returned (.bool (inB l s))∧w'=w:=by
 go_enter Tryz.func80,Tryz.ntmps80
 go_wp2
 go_loop [5] (fun i=>∃k:Nat,k≤l.length∧i=.int .i64 k∧Hid (∀j,(h:j<l.length)→j<k→¬l[j].toList=s.toList)) (fun i=>l.length-(intOf i).toNat)
 case atStart=>exact⟨0,Nat.zero_le _,rfl,fun j _ h=>by omega⟩
 case round =>
  obtain⟨k,hk,rfl,HN⟩:=hrel
  by_cases hlt:k<l.length
  ·have hc:=hl k hlt
   have HL:Hid _:=hl
   clear hl
   go_wp2
   ·go_ret
    have he:(l[k].toList==s.toList)=true:=by assumption
    refine⟨?_,rfl⟩
    refine congrArg (fun b=>Ending.returned (.bool b)) ?_
    refine(decide_eq_true ?_).symm
    exact⟨l[k],List.getElem_mem _,beq_iff_eq.1 he⟩
   ·go_round
    case rel=>exact⟨k+1,by omega,by go_num,fun j hj hjk=>by
     by_cases e:j=k
     ·subst e
      intro h
      simp_all
     ·exact HN.out j hj (by omega)⟩
    case measure=>simp[intOf];omega
  ·go_wp2
   go_ret
   refine⟨?_,rfl⟩
   refine congrArg (fun b=>Ending.returned (.bool b)) ?_
   refine(decide_eq_false ?_).symm
   intro hm
   obtain⟨x,hx,e⟩:=hm
   obtain⟨j,hj,rfl⟩:=List.getElem_of_mem hx
   exact HN.out j hj (by omega) e
theorem wordsObj_cell(w:World)(k:Nat)(h:k<wordTexts.length):(w.alloc wordsObj).cell? ⟨w.heap.size,k,none⟩=some (.string wordTexts[k]):=by
 unfold wordsObj
 rw[World.cell?_alloc_at _ _ _ _ rfl]
 simp[h]
set_option maxHeartbeats 800000 in
theorem word_calls(s:ByteArray)(w:World):Calls Tryz.prog 47 #[.string s] w fun e w'=>e=.returned (.bool (wordB s))∧w'=w.alloc wordsObj:=by
 have HI:Hid _:=inB_words s
 have hc:=in_calls wordTexts w.heap.size s (w.alloc wordsObj) (wordsObj_cell w) (by decide)
 go_enter Tryz.func47,Tryz.ntmps47
 go_wp2_with fail
 refine(words_calls _).mono ?_
 rintro e w' ⟨rfl,rfl⟩
 go_wp2_with fail
 refine hc.mono ?_
 rintro e w' ⟨rfl,rfl⟩
 clear hc
 go_wp2
 go_ret
 refine⟨?_,rfl⟩
 exact congrArg (fun b=>Ending.returned (.bool b)) HI.out
theorem toList_len(s:ByteArray):s.toList.length=s.size:=by
 rw[ByteArray.toList_eq,Array.length_toList]
 rfl
theorem toList_ne{s:ByteArray}(h:0<s.size):s.toList.isEmpty=false:=by
 rw[List.isEmpty_eq_false_iff]
 intro e
 have:=toList_len s
 rw[e] at this
 simp at this
 omega
theorem toList_nil{s:ByteArray}(h:¬0<s.size):s.toList.isEmpty=true:=by
 rw[List.isEmpty_iff]
 apply List.eq_nil_of_length_eq_zero
 rw[toList_len]
 omega
set_option maxHeartbeats 1600000 in
theorem name_calls(s:ByteArray)(w:World)(hs:s.size≤1048576):Calls Tryz.prog 77 #[.string s] w fun e w'=>e=.returned (.bool (nameB s))∧Gr w w':=by
 have HB:Hid (nameB s=decide (0<s.size∧s.size≤32∧letterB (byteAt s 0)=true∧wordB s=false∧plainB s s.size=true)):=rfl
 by_cases h0:0<s.size
 ·have hne:=toList_ne h0
  by_cases h32:s.size≤32
  ·have hd32:decide (32<(s.size:Int))=false:=by simp;omega
   have HZ:=hid (byteAt_lt h0)
   rcases hl:letterB (s[0].toNat:Int) with _|_
   ·go_enter Tryz.func77,Tryz.ntmps77
    go_wp2_with fail
    refine(letter_calls _ _).mono ?_
    rintro e w' ⟨rfl,rfl⟩
    go_wp2_with fail
    go_ret
    refine⟨bool_ret ?_,(by with_reducible repeat first|exact Gr.refl _|refine Gr.alloc ?_ _|refine Gr.drewN ?_ _|refine Gr.drew ?_|refine Gr.later ?_ _ _)⟩
    rw[HB.out,HZ.out,hl]
    simp
   ·rcases hw:wordB s with _|_
    ·go_enter Tryz.func77,Tryz.ntmps77
     go_wp2_with fail
     refine(letter_calls _ _).mono ?_
     rintro e w' ⟨rfl,rfl⟩
     go_wp2_with fail
     refine(word_calls _ _).mono ?_
     rintro e w' ⟨rfl,rfl⟩
     go_wp2_with fail
     have HL:Hid _:=hl
     have HW:Hid _:=hw
     clear hl hw
     go_loop [3] (fun i=>∃k:Nat,k≤s.size∧i=.int .i64 k∧Hid (plainB s k=true)) (fun i=>s.size-(intOf i).toNat)
     case atStart=>exact⟨0,Nat.zero_le _,rfl,plainB_zero s⟩
     case round =>
      obtain⟨k,hk,rfl,HP⟩:=hrel
      by_cases hlt:k<s.size
      ·have HK:=hid (byteAt_lt hlt)
       rcases hl:letterB (s[k].toNat:Int) with _|_
       ·rcases hd:digitB (s[k].toNat:Int) with _|_
        ·go_wp2_with fail
         refine(letter_calls _ _).mono ?_
         rintro e w' ⟨rfl,rfl⟩
         go_wp2_with fail
         refine(digit_calls _ _).mono ?_
         rintro e w' ⟨rfl,rfl⟩
         go_wp2_with fail
         go_ret
         refine⟨bool_ret ?_,(by with_reducible repeat first|exact Gr.refl _|refine Gr.alloc ?_ _|refine Gr.drewN ?_ _|refine Gr.drew ?_|refine Gr.later ?_ _ _)⟩
         rw[HB.out,plainB_not s k s.size hlt (by rw[HK.out];exact hl) (by rw[HK.out];exact hd)]
         simp
        ·go_wp2_with fail
         refine(letter_calls _ _).mono ?_
         rintro e w' ⟨rfl,rfl⟩
         go_wp2_with fail
         refine(digit_calls _ _).mono ?_
         rintro e w' ⟨rfl,rfl⟩
         go_wp2_with fail
         go_round
         case rel=>exact⟨k+1,by omega,by go_num,plainB_succ s k HP.out (Or.inr (by rw[HK.out];exact hd))⟩
         case measure=>simp[intOf];omega
       ·go_wp2_with fail
        refine(letter_calls _ _).mono ?_
        rintro e w' ⟨rfl,rfl⟩
        go_wp2_with fail
        go_round
        case rel=>exact⟨k+1,by omega,by go_num,plainB_succ s k HP.out (Or.inl (by rw[HK.out];exact hl))⟩
        case measure=>simp[intOf];omega
      ·go_wp2
       go_ret
       have e:k=s.size:=by omega
       have hp:=HP.out
       rw[e] at hp
       refine⟨bool_ret ?_,(by with_reducible repeat first|exact Gr.refl _|refine Gr.alloc ?_ _|refine Gr.drewN ?_ _|refine Gr.drew ?_|refine Gr.later ?_ _ _)⟩
       rw[HB.out,HZ.out,HL.out,HW.out,hp]
       simp
       omega
    ·go_enter Tryz.func77,Tryz.ntmps77
     go_wp2_with fail
     refine(letter_calls _ _).mono ?_
     rintro e w' ⟨rfl,rfl⟩
     go_wp2_with fail
     refine(word_calls _ _).mono ?_
     rintro e w' ⟨rfl,rfl⟩
     go_wp2_with fail
     go_ret
     refine⟨bool_ret ?_,(by with_reducible repeat first|exact Gr.refl _|refine Gr.alloc ?_ _|refine Gr.drewN ?_ _|refine Gr.drew ?_|refine Gr.later ?_ _ _)⟩
     rw[HB.out,hw]
     simp
  ·have hd32:decide (32<(s.size:Int))=true:=by simp;omega
   go_enter Tryz.func77,Tryz.ntmps77
   go_wp2_with fail
   go_ret
   refine⟨bool_ret ?_,(by with_reducible repeat first|exact Gr.refl _|refine Gr.alloc ?_ _|refine Gr.drewN ?_ _|refine Gr.drew ?_|refine Gr.later ?_ _ _)⟩
   rw[HB.out]
   simp
   omega
 ·have hnil:=toList_nil h0
  go_enter Tryz.func77,Tryz.ntmps77
  go_wp2_with fail
  go_ret
  refine⟨bool_ret ?_,(by with_reducible repeat first|exact Gr.refl _|refine Gr.alloc ?_ _|refine Gr.drewN ?_ _|refine Gr.drew ?_|refine Gr.later ?_ _ _)⟩
  rw[HB.out]
  simp
  omega
end Go.Proofs.YthbgnpkgglbhjaaGreatDoor
