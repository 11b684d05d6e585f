import Derived.Test.YthbgnpkgglbhjaaGreatDoorLexStepPlain
import Derived.Test.YthbgnpkgglbhjaaGreatDoorLexWords
import Derived.Laws.Small
namespace Go.Proofs.YthbgnpkgglbhjaaGreatDoor
open Go.RowKit
theorem begun_letter{a:Int}(h:letterB a=true)(b l d n:Int):begunBy a b l d n=(1,n):=by
 have hl2:=h
 simp only[letterB,decide_eq_true_eq] at hl2
 have hd:digitB a=false:=by
  simp only[digitB,decide_eq_false_iff_not]
  omega
 unfold begunBy
 rw[if_neg (by simp;omega),if_neg (by simp;omega),if_neg (by simp;omega),if_neg (by simp;omega),if_neg (by simp;omega),if_neg (by simp;omega),if_neg (by simp;omega),if_neg (by simp;omega),if_neg (by simp[hd]),if_pos h]
theorem begun_other{a:Int}(h:letterB a=false)(b l d n:Int):((begunBy a b l d n).1==1)=false:=by
 unfold begunBy
 rw[h]
 repeat' split
 all_goals first|rfl|(rename_i hh;cases hh)
theorem wordEnd_stop(s:ByteArray)(k:Nat)(g:wordEnd s k<s.size):¬(letterB (byteAt s (wordEnd s k))=true∨digitB (byteAt s (wordEnd s k))=true):=by
 induction hm:s.size-k using Nat.strongRecOn generalizing k with
 | ind m ih =>
  by_cases h:k<s.size∧(letterB (byteAt s k)=true∨digitB (byteAt s k)=true)
  ·have e:=(wordEnd_step h.1 h.2).symm
   rw[e] at g ⊢
   exact ih (s.size-(k+1)) (by omega) (k+1) g rfl
  ·have e:wordEnd s k=k:=by rw[wordEnd_eq,if_neg h]
   rw[e] at g ⊢
   exact fun x=>h ⟨g,x⟩
theorem plain_iff(s:ByteArray):plainB s s.size=decide (wordEnd s 0=s.size):=by
 unfold plainB
 rw[decide_eq_decide]
 constructor
 ·intro h
  have h1:=wordEnd_le s 0 (Nat.zero_le _)
  rcases Nat.lt_or_ge (wordEnd s 0) s.size with hx|hx
  ·exact absurd (h _ hx) (wordEnd_stop s 0 hx)
  ·omega
 ·intro h j hj
  exact wordEnd_all s 0 j (Nat.zero_le _) (by omega)
theorem nameB_iff(s:ByteArray):nameB s=(letterB (byteAt s 0)&&(decide (wordEnd s 0=s.size)&&(decide (wordEnd s 0≤32)&&!wordB s))):=by
 unfold nameB
 rw[plain_iff,Bool.eq_iff_iff]
 simp only[decide_eq_true_eq,Bool.and_eq_true,Bool.not_eq_true']
 constructor
 ·rintro⟨h1,h2,h3,h4,h5⟩
  exact⟨h3,h5,by omega,h4⟩
 ·rintro⟨h1,h2,h3,h4⟩
  refine⟨?_,by omega,h1,h4,h2⟩
  rcases Nat.eq_zero_or_pos s.size with h0|h0
  ·rw[byteAt_far (by omega)] at h1
   exact absurd h1 (by decide)
  ·exact h0
set_option maxHeartbeats 1600000 in
set_option maxRecDepth 100000 in
theorem lexName_calls(s:ByteArray)(w:World)(hs:s.size≤1048576):Calls Tryz.prog 119 #[.string s] w fun e w'=>e=.returned (.bool (nameB s))∧Below w.heap.size w w':=by
 rw[nameB_iff]
 have CB:=begun_calls s w hs
 unfold begunOf at CB
 rcases hl:letterB (byteAt s 0) with _|_
 ·have hk:=begun_other hl (byteAt s 1) (lineEnd s 0) (digitEnd s 0) (wordEnd s 0)
  generalize begunBy (byteAt s 0) (byteAt s 1) (lineEnd s 0) (digitEnd s 0) (wordEnd s 0)=q at *
  obtain⟨q1,q2⟩:=q
  simp only at hk CB
  clear hl
  go_enter Tryz.func119,Tryz.ntmps119
  go_wp2_with fail
  refine CB.mono ?_
  rintro e w' ⟨rfl,rfl⟩
  clear CB
  go_wp2_with fail
  go_ret
  exact⟨rfl,Below.refl _ _⟩
 ·rw[begun_letter hl] at CB
  clear hl
  have hle:=wordEnd_le s 0 (Nat.zero_le _)
  generalize wordEnd s 0=n at *
  by_cases h1:n=s.size
  ·have hq1:((n:Int)==(s.size:Int))=true:=by simp;omega
   by_cases h2:n≤32
   ·have hq2:decide ((n:Int)≤32)=true:=by simp;omega
    go_enter Tryz.func119,Tryz.ntmps119
    go_wp2_with fail
    refine CB.mono ?_
    rintro e w' ⟨rfl,rfl⟩
    clear CB
    go_wp2_with fail
    refine(lexWord_calls s _ (by unfold maxLen;omega)).mono ?_
    rintro e w1 ⟨rfl,hb⟩
    go_wp2_with fail
    go_ret
    exact⟨bool_ret (by simp[h1];omega),hb⟩
   ·have hq2:decide ((n:Int)≤32)=false:=by simp;omega
    go_enter Tryz.func119,Tryz.ntmps119
    go_wp2_with fail
    refine CB.mono ?_
    rintro e w' ⟨rfl,rfl⟩
    clear CB
    go_wp2_with fail
    go_ret
    exact⟨bool_ret (by simp;omega),Below.refl _ _⟩
  ·have hq1:((n:Int)==(s.size:Int))=false:=by simp;omega
   go_enter Tryz.func119,Tryz.ntmps119
   go_wp2_with fail
   refine CB.mono ?_
   rintro e w' ⟨rfl,rfl⟩
   clear CB
   go_wp2_with fail
   go_ret
   exact⟨bool_ret (by simp;omega),Below.refl _ _⟩
end Go.Proofs.YthbgnpkgglbhjaaGreatDoor
