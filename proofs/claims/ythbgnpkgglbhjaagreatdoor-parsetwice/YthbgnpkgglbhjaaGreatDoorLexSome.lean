import Derived.Test.YthbgnpkgglbhjaaGreatDoorLexPlain
import Derived.KernelRfl
import Derived.Test.YthbgnpkgglbhjaaGreatDoorProg
import Derived.WalkKit
import Derived.Deep.AppendLies
import Derived.OwnWalk
import Derived.Deep.Onto
import Derived.Laws.OwnMore
namespace Go.Proofs.YthbgnpkgglbhjaaGreatDoor
def blankB(c:Int):Bool:=decide (c=32∨c=9∨c=10∨c=13)
def hyphensB(s:ByteArray)(k:Nat):Bool:=decide (byteAt s k=45∧k+1<s.size∧byteAt s (k+1)=45)
def lineEndN(s:ByteArray):Nat→Nat→Nat
 | 0,k=>k
 | n+1,k=>if k<s.size∧byteAt s k≠10 then lineEndN s n (k+1) else k
def lineEnd(s:ByteArray)(k:Nat):Nat:=lineEndN s (s.size-k) k
theorem lineEnd_eq(s:ByteArray)(k:Nat):lineEnd s k=if k<s.size∧byteAt s k≠10 then lineEnd s (k+1) else k:=by
 unfold lineEnd
 by_cases h:k<s.size
 ·rw[show s.size-k=(s.size-(k+1))+1 by omega,lineEndN]
 ·rw[if_neg (by omega),show s.size-k=0 by omega,lineEndN]
theorem lineEnd_ge(s:ByteArray)(k:Nat):k≤lineEnd s k:=by
 induction hm:s.size-k using Nat.strongRecOn generalizing k with
 | ind m ih =>
  rw[lineEnd_eq]
  split
  ·have:=ih (s.size-(k+1)) (by omega) (k+1) rfl
   omega
  ·omega
theorem lineEnd_le(s:ByteArray)(k:Nat)(h:k≤s.size):lineEnd s k≤s.size:=by
 induction hm:s.size-k using Nat.strongRecOn generalizing k with
 | ind m ih =>
  rw[lineEnd_eq]
  split
  ·exact ih (s.size-(k+1)) (by omega) (k+1) (by omega) rfl
  ·exact h
theorem lineEnd_gt(s:ByteArray)(k:Nat)(h:k<s.size)(g:byteAt s k=45):k<lineEnd s k:=by
 rw[lineEnd_eq,if_pos ⟨h,by omega⟩]
 have:=lineEnd_ge s (k+1)
 omega
theorem lineEnd_step{s:ByteArray}{k:Nat}(h:k<s.size)(g:byteAt s k≠10):lineEnd s (k+1)=lineEnd s k:=by
 conv=>rhs;rw[lineEnd_eq,if_pos ⟨h,g⟩]
theorem lineEnd_here{s:ByteArray}{k:Nat}(g:¬k<s.size∨byteAt s k=10):lineEnd s k=k:=by
 rw[lineEnd_eq,if_neg (by omega)]
theorem hyphens_gt{s:ByteArray}{k:Nat}(h:k<s.size)(r:hyphensB s k=true):k<lineEnd s k :=
 lineEnd_gt s k h (by simp only[hyphensB,decide_eq_true_eq] at r;omega)
def afterToN(s:ByteArray):Nat→Nat→Nat
 | 0,k=>k
 | n+1,k=>if k<s.size then (if blankB (byteAt s k)=true then afterToN s n (k+1) else if hyphensB s k=true then afterToN s n (lineEnd s k) else k) else k
theorem afterToN_far(s:ByteArray)(n:Nat):∀m k,s.size-k≤n→s.size-k≤m→afterToN s n k=afterToN s m k:=by
 induction n with
 | zero =>
  intro m k h1 h2
  cases m with
  | zero=>rfl
  | succ m=>rw[afterToN,afterToN,if_neg (by omega)]
 | succ n ih =>
  intro m k h1 h2
  by_cases h:k<s.size
  ·obtain⟨q,rfl⟩:∃q,m=q+1:=⟨m-1,by omega⟩
   rw[afterToN,afterToN,if_pos h,if_pos h]
   by_cases h3:blankB (byteAt s k)=true
   ·rw[if_pos h3,if_pos h3]
    exact ih q (k+1) (by omega) (by omega)
   ·rw[if_neg h3,if_neg h3]
    by_cases h4:hyphensB s k=true
    ·rw[if_pos h4,if_pos h4]
     have:=hyphens_gt h h4
     exact ih q _ (by omega) (by omega)
    ·rw[if_neg h4,if_neg h4]
  ·cases m with
   | zero=>rw[afterToN,afterToN,if_neg h]
   | succ m=>rw[afterToN,afterToN,if_neg h,if_neg h]
def afterTo(s:ByteArray)(k:Nat):Nat:=afterToN s (s.size-k) k
theorem afterTo_eq(s:ByteArray)(k:Nat):afterTo s k=if k<s.size then (if blankB (byteAt s k)=true then afterTo s (k+1) else if hyphensB s k=true then afterTo s (lineEnd s k) else k) else k:=by
 unfold afterTo
 by_cases h:k<s.size
 ·rw[if_pos h,show s.size-k=(s.size-(k+1))+1 by omega,afterToN,if_pos h]
  by_cases h3:blankB (byteAt s k)=true
  ·rw[if_pos h3,if_pos h3]
  ·rw[if_neg h3,if_neg h3]
   by_cases h4:hyphensB s k=true
   ·rw[if_pos h4,if_pos h4]
    have:=hyphens_gt h h4
    exact afterToN_far s _ _ _ (by omega) (by omega)
   ·rw[if_neg h4,if_neg h4]
 ·rw[if_neg h,show s.size-k=0 by omega,afterToN]
theorem afterTo_le(s:ByteArray)(k:Nat)(h:k≤s.size):afterTo s k≤s.size:=by
 induction hm:s.size-k using Nat.strongRecOn generalizing k with
 | ind m ih =>
  rw[afterTo_eq]
  by_cases h1:k<s.size
  ·rw[if_pos h1]
   split
   ·exact ih (s.size-(k+1)) (by omega) (k+1) (by omega) rfl
   ·by_cases h2:hyphensB s k=true
    ·rw[if_pos h2]
     have:=hyphens_gt h1 h2
     exact ih (s.size-lineEnd s k) (by omega) (lineEnd s k) (lineEnd_le s k h) rfl
    ·rw[if_neg h2]
     omega
  ·rw[if_neg h1]
   omega
theorem afterTo_ge(s:ByteArray)(k:Nat):k≤afterTo s k:=by
 induction hm:s.size-k using Nat.strongRecOn generalizing k with
 | ind m ih =>
  rw[afterTo_eq]
  by_cases h1:k<s.size
  ·rw[if_pos h1]
   split
   ·have:=ih (s.size-(k+1)) (by omega) (k+1) rfl
    omega
   ·by_cases h2:hyphensB s k=true
    ·rw[if_pos h2]
     have:=hyphens_gt h1 h2
     have:=ih (s.size-lineEnd s k) (by omega) (lineEnd s k) rfl
     omega
    ·rw[if_neg h2]
     omega
  ·rw[if_neg h1]
   omega
theorem afterTo_blank{s:ByteArray}{k:Nat}(h:k<s.size)(g:blankB (byteAt s k)=true):afterTo s (k+1)=afterTo s k:=by
 conv=>rhs;rw[afterTo_eq,if_pos h,if_pos g]
theorem afterTo_remark{s:ByteArray}{k:Nat}(h:k<s.size)(g:blankB (byteAt s k)=false)(r:hyphensB s k=true):afterTo s (lineEnd s k)=afterTo s k:=by
 conv=>rhs;rw[afterTo_eq,if_pos h,if_neg (by simp[g]),if_pos r]
theorem afterTo_here{s:ByteArray}{k:Nat}(h:k<s.size)(g:blankB (byteAt s k)=false)(r:hyphensB s k=false):afterTo s k=k:=by
 rw[afterTo_eq,if_pos h,if_neg (by simp[g]),if_neg (by simp[r])]
theorem afterTo_end{s:ByteArray}{k:Nat}(h:¬k<s.size):afterTo s k=k:=by
 rw[afterTo_eq,if_neg h]
def numTo(s:ByteArray):Nat→Nat
 | 0=>0
 | k+1=>10*numTo s k+(byteAt s k-48).toNat
def Digits(s:ByteArray):Prop:=∀j,j<s.size→digitB (byteAt s j)=true
theorem numTo_lt{s:ByteArray}(h:Digits s)(k:Nat)(hk:k≤s.size):numTo s k<10 ^ k:=by
 induction k with
 | zero=>simp[numTo]
 | succ k ih =>
  have h1:=h k (by omega)
  simp only[digitB,decide_eq_true_eq] at h1
  have:=ih (by omega)
  simp only[numTo,Nat.pow_succ]
  omega
def numOk(s:ByteArray):Bool:=decide (s.size≤19∧¬(1<s.size∧byteAt s 0=48)∧numTo s s.size≤9223372036854775807)
def numVal(s:ByteArray):Nat:=if numOk s=true then numTo s s.size else 0
def wordEndN(s:ByteArray):Nat→Nat→Nat
 | 0,k=>k
 | n+1,k=>if k<s.size∧(letterB (byteAt s k)=true∨digitB (byteAt s k)=true) then wordEndN s n (k+1) else k
def wordEnd(s:ByteArray)(k:Nat):Nat:=wordEndN s (s.size-k) k
theorem wordEnd_eq(s:ByteArray)(k:Nat):wordEnd s k=if k<s.size∧(letterB (byteAt s k)=true∨digitB (byteAt s k)=true) then wordEnd s (k+1) else k:=by
 unfold wordEnd
 by_cases h:k<s.size
 ·rw[show s.size-k=(s.size-(k+1))+1 by omega,wordEndN]
 ·rw[if_neg (fun g=>h g.1),show s.size-k=0 by omega,wordEndN]
def digitEndN(s:ByteArray):Nat→Nat→Nat
 | 0,k=>k
 | n+1,k=>if k<s.size∧digitB (byteAt s k)=true then digitEndN s n (k+1) else k
def digitEnd(s:ByteArray)(k:Nat):Nat:=digitEndN s (s.size-k) k
theorem digitEnd_eq(s:ByteArray)(k:Nat):digitEnd s k=if k<s.size∧digitB (byteAt s k)=true then digitEnd s (k+1) else k:=by
 unfold digitEnd
 by_cases h:k<s.size
 ·rw[show s.size-k=(s.size-(k+1))+1 by omega,digitEndN]
 ·rw[if_neg (fun g=>h g.1),show s.size-k=0 by omega,digitEndN]
theorem wordEnd_step{s:ByteArray}{k:Nat}(h:k<s.size)(g:letterB (byteAt s k)=true∨digitB (byteAt s k)=true):wordEnd s (k+1)=wordEnd s k:=by
 conv=>rhs;rw[wordEnd_eq,if_pos ⟨h,g⟩]
theorem wordEnd_here{s:ByteArray}{k:Nat}(h:¬k<s.size∨(letterB (byteAt s k)=false∧digitB (byteAt s k)=false)):wordEnd s k=k:=by
 rw[wordEnd_eq,if_neg]
 rintro⟨h1,h2⟩
 rcases h with h|⟨a,b⟩
 ·exact h h1
 ·rw[a,b] at h2
  simp at h2
theorem digitEnd_step{s:ByteArray}{k:Nat}(h:k<s.size)(g:digitB (byteAt s k)=true):digitEnd s (k+1)=digitEnd s k:=by
 conv=>rhs;rw[digitEnd_eq,if_pos ⟨h,g⟩]
theorem digitEnd_here{s:ByteArray}{k:Nat}(h:¬k<s.size∨digitB (byteAt s k)=false):digitEnd s k=k:=by
 rw[digitEnd_eq,if_neg]
 rintro⟨h1,h2⟩
 rcases h with h|a
 ·exact h h1
 ·rw[a] at h2
  simp at h2
theorem wordEnd_ge(s:ByteArray)(k:Nat):k≤wordEnd s k:=by
 induction hm:s.size-k using Nat.strongRecOn generalizing k with
 | ind m ih =>
  rw[wordEnd_eq]
  split
  ·have:=ih (s.size-(k+1)) (by omega) (k+1) rfl
   omega
  ·omega
theorem wordEnd_le(s:ByteArray)(k:Nat)(h:k≤s.size):wordEnd s k≤s.size:=by
 induction hm:s.size-k using Nat.strongRecOn generalizing k with
 | ind m ih =>
  rw[wordEnd_eq]
  split
  ·exact ih (s.size-(k+1)) (by omega) (k+1) (by omega) rfl
  ·exact h
theorem digitEnd_ge(s:ByteArray)(k:Nat):k≤digitEnd s k:=by
 induction hm:s.size-k using Nat.strongRecOn generalizing k with
 | ind m ih =>
  rw[digitEnd_eq]
  split
  ·have:=ih (s.size-(k+1)) (by omega) (k+1) rfl
   omega
  ·omega
theorem digitEnd_le(s:ByteArray)(k:Nat)(h:k≤s.size):digitEnd s k≤s.size:=by
 induction hm:s.size-k using Nat.strongRecOn generalizing k with
 | ind m ih =>
  rw[digitEnd_eq]
  split
  ·exact ih (s.size-(k+1)) (by omega) (k+1) (by omega) rfl
  ·exact h
theorem digitEnd_all(s:ByteArray)(k j:Nat)(h:k≤j)(g:j<digitEnd s k):digitB (byteAt s j)=true:=by
 induction hm:s.size-k using Nat.strongRecOn generalizing k with
 | ind m ih =>
  rw[digitEnd_eq] at g
  split at g
  ·rename_i h1
   by_cases e:j=k
   ·subst e;exact h1.2
   ·exact ih (s.size-(k+1)) (by omega) (k+1) (by omega) g rfl
  ·omega
theorem byteAt_extract(s:ByteArray)(a b j:Nat)(hb:b≤s.size)(hj:a+j<b):byteAt (s.extract a b) j=byteAt s (a+j):=by
 have h1:j<(s.extract a b).size:=by rw[ByteArray.size_extract];omega
 rw[byteAt_lt h1,byteAt_lt (by omega)]
 congr 2
 rw[ByteArray.getElem_extract]
theorem digits_extract(s:ByteArray)(k:Nat)(h:k≤s.size):Digits (s.extract k (digitEnd s k)):=by
 intro j hj
 rw[ByteArray.size_extract] at hj
 have:=digitEnd_le s k h
 rw[byteAt_extract s k _ j this (by omega)]
 exact digitEnd_all s k (k+j) (by omega) (by omega)
def signTexts:List ByteArray:=[⟨#[42,94]⟩,⟨#[47,94]⟩,⟨#[126,62]⟩,⟨#[58,58]⟩,⟨#[60,62]⟩,⟨#[60,61]⟩,⟨#[62,61]⟩,⟨#[40]⟩,⟨#[41]⟩,⟨#[59]⟩,⟨#[58]⟩,⟨#[44]⟩,⟨#[61]⟩,⟨#[60]⟩,⟨#[62]⟩,⟨#[43]⟩,⟨#[45]⟩,⟨#[42]⟩,⟨#[47]⟩,⟨#[37]⟩]
def standsB(s:ByteArray)(k:Nat)(t:ByteArray):Bool:=decide (t.size≤s.size-k∧(s.extract k (k+t.size)).toList=t.toList)
def signAt(s:ByteArray)(k:Nat)(l:List ByteArray):Option ByteArray:=l.find? (standsB s k)
structure Tok where
 kind:Int
 text:ByteArray
 int:Int
 place:Nat
def signTok(o:Option ByteArray)(k:Nat):Tok × Int:=match o with
 | some t=>(⟨4,t,0,k⟩,0)
 | none=>(⟨0,⟨#[]⟩,0,0⟩,30)
def tokenOf(s:ByteArray)(k:Nat):Tok × Int :=
 if letterB (byteAt s k)=true then
  if wordEnd s k-k≤32 then (⟨if wordB (s.extract k (wordEnd s k))=true then 3 else 1,s.extract k (wordEnd s k),0,k⟩,0)
  else (⟨0,⟨#[]⟩,0,0⟩,32)
 else if digitB (byteAt s k)=true then
  if numOk (s.extract k (digitEnd s k))=true then (⟨2,s.extract k (digitEnd s k),numVal (s.extract k (digitEnd s k)),k⟩,0)
  else (⟨0,⟨#[]⟩,0,0⟩,31)
 else signTok (signAt s k signTexts) k
theorem signTexts_size(t:ByteArray)(h:t∈signTexts):1≤t.size∧t.size≤2:=by
 revert t
 decide
theorem stands_size{s:ByteArray}{k:Nat}{t:ByteArray}(h:standsB s k t=true):t.size≤s.size-k:=by
 simp only[standsB,decide_eq_true_eq] at h
 exact h.1
theorem tok_size{s:ByteArray}{k:Nat}(hk:k<s.size)(he:(tokenOf s k).2=0):0<(tokenOf s k).1.text.size∧k+(tokenOf s k).1.text.size≤s.size∧(tokenOf s k).1.place=k:=by
 unfold tokenOf at *
 by_cases h1:letterB (byteAt s k)=true
 ·rw[if_pos h1] at he ⊢
  by_cases h2:wordEnd s k-k≤32
  ·rw[if_pos h2]
   have h3:=wordEnd_le s k (by omega)
   have h4:k<wordEnd s k:=by
    rw[←wordEnd_step hk (Or.inl h1)]
    have:=wordEnd_ge s (k+1)
    omega
   refine⟨?_,?_,rfl⟩<;>simp only[ByteArray.size_extract]<;>omega
  ·rw[if_neg h2] at he
   simp at he
 ·rw[if_neg h1] at he ⊢
  by_cases h2:digitB (byteAt s k)=true
  ·rw[if_pos h2] at he ⊢
   by_cases h3:numOk (s.extract k (digitEnd s k))=true
   ·rw[if_pos h3]
    have h3:=digitEnd_le s k (by omega)
    have h4:k<digitEnd s k:=by
     rw[←digitEnd_step hk h2]
     have:=digitEnd_ge s (k+1)
     omega
    refine⟨?_,?_,rfl⟩<;>simp only[ByteArray.size_extract]<;>omega
   ·rw[if_neg h3] at he
    simp at he
  ·rw[if_neg h2] at he ⊢
   rcases h3:signAt s k signTexts with _|t
   ·rw[h3] at he
    simp[signTok] at he
   ·simp only[signTok]
    have h4:=List.mem_of_find?_eq_some h3
    have h5:=List.find?_some h3
    have h6:=signTexts_size t h4
    have h7:=stands_size h5
    refine⟨?_,?_,trivial⟩<;>omega
def scanN(s:ByteArray):Nat→Nat→List Tok→List Tok × Nat × Int
 | 0,_,acc=>(acc++[⟨0,⟨#[]⟩,0,s.size⟩],0,0)
 | n+1,k,acc =>
  if k<s.size then
   if (tokenOf s k).2=0 then
    if acc.length+1<16384 then scanN s n (afterTo s (k+(tokenOf s k).1.text.size)) (acc++[(tokenOf s k).1]) else ([],k,6)
   else ([],k,(tokenOf s k).2)
  else (acc++[⟨0,⟨#[]⟩,0,s.size⟩],0,0)
theorem tok_on{s:ByteArray}{k:Nat}(hk:k<s.size)(he:(tokenOf s k).2=0):k<afterTo s (k+(tokenOf s k).1.text.size):=by
 have h1:=(tok_size hk he).1
 have h2:=afterTo_ge s (k+(tokenOf s k).1.text.size)
 omega
theorem scanN_far(s:ByteArray)(n:Nat):∀m k acc,s.size-k≤n→s.size-k≤m→scanN s n k acc=scanN s m k acc:=by
 induction n with
 | zero =>
  intro m k acc h1 h2
  cases m with
  | zero=>rfl
  | succ m=>rw[scanN,scanN,if_neg (by omega)]
 | succ n ih =>
  intro m k acc h1 h2
  by_cases h:k<s.size
  ·obtain⟨q,rfl⟩:∃q,m=q+1:=⟨m-1,by omega⟩
   rw[scanN,scanN,if_pos h,if_pos h]
   by_cases h3:(tokenOf s k).2=0
   ·rw[if_pos h3,if_pos h3]
    have:=tok_on h h3
    by_cases h4:acc.length+1<16384
    ·rw[if_pos h4,if_pos h4]
     exact ih q _ _ (by omega) (by omega)
    ·rw[if_neg h4,if_neg h4]
   ·rw[if_neg h3,if_neg h3]
  ·cases m with
   | zero=>rw[scanN,scanN,if_neg h]
   | succ m=>rw[scanN,scanN,if_neg h,if_neg h]
def scanFrom(s:ByteArray)(k:Nat)(acc:List Tok):List Tok × Nat × Int:=scanN s (s.size-k) k acc
theorem scan_eq(s:ByteArray)(k:Nat)(acc:List Tok):scanFrom s k acc=if k<s.size then
   if (tokenOf s k).2=0 then
    if acc.length+1<16384 then scanFrom s (afterTo s (k+(tokenOf s k).1.text.size)) (acc++[(tokenOf s k).1]) else ([],k,6)
   else ([],k,(tokenOf s k).2)
  else (acc++[⟨0,⟨#[]⟩,0,s.size⟩],0,0):=by
 unfold scanFrom
 by_cases h:k<s.size
 ·rw[if_pos h,show s.size-k=(s.size-(k+1))+1 by omega,scanN,if_pos h]
  by_cases h3:(tokenOf s k).2=0
  ·rw[if_pos h3,if_pos h3]
   have:=tok_on h h3
   by_cases h4:acc.length+1<16384
   ·rw[if_pos h4,if_pos h4]
    exact scanN_far s _ _ _ _ (by omega) (by omega)
   ·rw[if_neg h4,if_neg h4]
  ·rw[if_neg h3,if_neg h3]
 ·rw[if_neg h,show s.size-k=0 by omega,scanN]
theorem scan_step{s:ByteArray}{k:Nat}{acc:List Tok}(h:k<s.size)(g:(tokenOf s k).2=0)(l:acc.length+1<16384):scanFrom s (afterTo s (k+(tokenOf s k).1.text.size)) (acc++[(tokenOf s k).1])=scanFrom s k acc:=by
 conv=>rhs;rw[scan_eq,if_pos h,if_pos g,if_pos l]
theorem scan_full{s:ByteArray}{k:Nat}{acc:List Tok}(h:k<s.size)(g:(tokenOf s k).2=0)(l:¬acc.length+1<16384):scanFrom s k acc=([],k,6):=by
 rw[scan_eq,if_pos h,if_pos g,if_neg l]
theorem scan_wrong{s:ByteArray}{k:Nat}{acc:List Tok}(h:k<s.size)(g:¬(tokenOf s k).2=0):scanFrom s k acc=([],k,(tokenOf s k).2):=by
 rw[scan_eq,if_pos h,if_neg g]
theorem scan_end{s:ByteArray}{k:Nat}{acc:List Tok}(h:¬k<s.size):scanFrom s k acc=(acc++[⟨0,⟨#[]⟩,0,s.size⟩],0,0):=by
 rw[scan_eq,if_neg h]
def lexOf(s:ByteArray):List Tok × Nat × Int:=if 65536<s.size then ([],65536,4) else scanFrom s (afterTo s 0) []
theorem scan_err(s:ByteArray)(k:Nat)(acc:List Tok)(h:(scanFrom s k acc).2.2≠0):(scanFrom s k acc).1=[]:=by
 induction hm:s.size-k using Nat.strongRecOn generalizing k acc with
 | ind m ih =>
  rw[scan_eq] at h ⊢
  by_cases h1:k<s.size
  ·rw[if_pos h1] at h ⊢
   by_cases h2:(tokenOf s k).2=0
   ·rw[if_pos h2] at h ⊢
    by_cases h3:acc.length+1<16384
    ·rw[if_pos h3] at h ⊢
     have:=tok_on h1 h2
     exact ih _ (by omega) _ _ h rfl
    ·rw[if_neg h3]
   ·rw[if_neg h2]
  ·rw[if_neg h1] at h
   simp at h
theorem scan_len(s:ByteArray)(k:Nat)(acc:List Tok)(h:acc.length+1≤16384):(scanFrom s k acc).1.length≤16384:=by
 induction hm:s.size-k using Nat.strongRecOn generalizing k acc with
 | ind m ih =>
  rw[scan_eq]
  by_cases h1:k<s.size
  ·rw[if_pos h1]
   by_cases h2:(tokenOf s k).2=0
   ·rw[if_pos h2]
    by_cases h3:acc.length+1<16384
    ·rw[if_pos h3]
     have:=tok_on h1 h2
     exact ih _ (by omega) _ _ (by simp;omega) rfl
    ·rw[if_neg h3]
     simp
   ·rw[if_neg h2]
    simp
  ·rw[if_neg h1]
   simp
   omega
theorem lex_len(s:ByteArray):(lexOf s).1.length≤16384:=by
 unfold lexOf
 split
 ·simp
 ·exact scan_len s _ _ (by simp)
theorem lex_err{s:ByteArray}(h:(lexOf s).2.2≠0):(lexOf s).1=[]:=by
 unfold lexOf at *
 split
 ·rfl
 ·rename_i h1
  rw[if_neg h1] at h
  exact scan_err s _ _ h
def standsD(s:ByteArray)(k:Nat)(t:ByteArray):Bool:=decide (t.size≤s.size-k∧(s.extract k (k+t.size)).data.toList=t.data.toList)
theorem signAt_data(s:ByteArray)(k:Nat)(l:List ByteArray):signAt s k l=l.find? (standsD s k):=by
 have h:standsB s k=standsD s k:=by
  funext t
  unfold standsB standsD
  rw[ByteArray.toList_eq,ByteArray.toList_eq]
 unfold signAt
 rw[h]
theorem lex_long{s:ByteArray}(h:65536<s.size):lexOf s=([],65536,4):=by rw[lexOf,if_pos h]
theorem size_list(s:ByteArray):s.data.toList.length=s.size:=by
 rw[Array.length_toList]
 rfl
theorem byteAt_mid{s:ByteArray}{pre mid rest:List UInt8}(h:s.data.toList=pre++(mid++rest)){i:Nat}(hi:i<mid.length):byteAt s (pre.length+i)=(mid[i].toNat:Int):=by
 have hsz:s.size=pre.length+(mid.length+rest.length):=by rw[←size_list,h];simp
 rw[byteAt_lt (by omega)]
 have e:s[pre.length+i]'(by omega)=s.data.toList[pre.length+i]'(by rw[size_list];omega):=rfl
 rw[e]
 have:s.data.toList[pre.length+i]'(by rw[size_list];omega)=mid[i]:=by
  simp only[h]
  rw[List.getElem_append_right (by omega),List.getElem_append_left (by omega)]
  congr 1
  omega
 rw[this]
theorem ba_ext{a b:ByteArray}(h:a.data.toList=b.data.toList):a=b:=by
 cases a
 cases b
 exact congrArg ByteArray.mk (Array.toList_inj.1 h)
theorem extract_mid{s:ByteArray}{pre rest:List UInt8}{t:ByteArray}(h:s.data.toList=pre++(t.data.toList++rest)):s.extract pre.length (pre.length+t.size)=t:=by
 apply ba_ext
 have hsz:s.size=pre.length+(t.size+rest.length):=by rw[←size_list,h];simp
 apply List.ext_getElem
 ·rw[size_list,size_list,ByteArray.size_extract]
  omega
 ·intro i h1 h2
  rw[size_list] at h2
  have h3:i<(s.extract pre.length (pre.length+t.size)).size:=by rw[←size_list];exact h1
  have e1:=byteAt_extract s pre.length (pre.length+t.size) i (by omega) (by omega)
  rw[byteAt_mid h (i:=i) (by rw[size_list];exact h2),byteAt_lt h3] at e1
  have e2:((s.extract pre.length (pre.length+t.size))[i]'h3).toNat=(t.data.toList[i]'(by rw[size_list];exact h2)).toNat:=by omega
  exact UInt8.toNat_inj.1 e2
theorem wordEnd_all(s:ByteArray)(k j:Nat)(h:k≤j)(g:j<wordEnd s k):letterB (byteAt s j)=true∨digitB (byteAt s j)=true:=by
 induction hm:s.size-k using Nat.strongRecOn generalizing k with
 | ind m ih =>
  rw[wordEnd_eq] at g
  split at g
  ·rename_i h1
   by_cases e:j=k
   ·subst e;exact h1.2
   ·exact ih (s.size-(k+1)) (by omega) (k+1) (by omega) g rfl
  ·omega
theorem wordEnd_run(s:ByteArray)(n k:Nat)(hs:k+n≤s.size)(h:∀j,j<n→letterB (byteAt s (k+j))=true∨digitB (byteAt s (k+j))=true)(g:letterB (byteAt s (k+n))=false∧digitB (byteAt s (k+n))=false):wordEnd s k=k+n:=by
 induction n generalizing k with
 | zero=>exact wordEnd_here (Or.inr g)
 | succ n ih =>
  have h0:letterB (byteAt s k)=true∨digitB (byteAt s k)=true:=h 0 (by omega)
  rw[←wordEnd_step (by omega) h0,ih (k+1) (by omega) (fun j hj=>by have:=h (j+1) (by omega);rwa[show k+(j+1)=k+1+j by omega] at this) (by rwa[show k+(n+1)=k+1+n by omega] at g)]
  omega
theorem digitEnd_run(s:ByteArray)(n k:Nat)(hs:k+n≤s.size)(h:∀j,j<n→digitB (byteAt s (k+j))=true)(g:digitB (byteAt s (k+n))=false):digitEnd s k=k+n:=by
 induction n generalizing k with
 | zero=>exact digitEnd_here (Or.inr g)
 | succ n ih =>
  have h0:digitB (byteAt s k)=true:=h 0 (by omega)
  rw[←digitEnd_step (by omega) h0,ih (k+1) (by omega) (fun j hj=>by have:=h (j+1) (by omega);rwa[show k+(j+1)=k+1+j by omega] at this) (by rwa[show k+(n+1)=k+1+n by omega] at g)]
  omega
theorem stands_text{s:ByteArray}{k:Nat}{t:ByteArray}(h:standsB s k t=true):s.extract k (k+t.size)=t:=by
 simp only[standsB,decide_eq_true_eq] at h
 apply ba_ext
 rw[←ByteArray.toList_eq,←ByteArray.toList_eq]
 exact h.2
theorem stands_at{s:ByteArray}{k:Nat}{t:ByteArray}(h:standsB s k t=true){j:Nat}(hj:j<t.size):byteAt s (k+j)=byteAt t j:=by
 have h1:=stands_text h
 have h2:=stands_size h
 have h3:=byteAt_extract s k (k+t.size) j (by omega) (by omega)
 rw[h1] at h3
 exact h3.symm
theorem stands_of{s:ByteArray}{k:Nat}{t:ByteArray}(h:s.extract k (k+t.size)=t)(hs:k+t.size≤s.size):standsB s k t=true:=by
 simp only[standsB,decide_eq_true_eq]
 exact⟨by omega,by rw[h]⟩
def tokC(s:ByteArray)(k:Nat):Tok × Int :=
 if letterB (byteAt s k)=true then
  if wordEnd s k-k≤32 then (⟨if wordB (s.extract k (wordEnd s k))=true then 3 else 1,s.extract k (wordEnd s k),0,k⟩,0)
  else (⟨0,⟨#[]⟩,0,0⟩,32)
 else if digitB (byteAt s k)=true then
  if numOk (s.extract k (digitEnd s k))=true then (⟨2,s.extract k (digitEnd s k),numVal (s.extract k (digitEnd s k)),k⟩,0)
  else (⟨0,⟨#[]⟩,0,0⟩,31)
 else signTok (signTexts.find? (standsD s k)) k
theorem tokC_eq(s:ByteArray)(k:Nat):tokenOf s k=tokC s k:=by
 unfold tokenOf tokC
 rw[signAt_data]
def scanC(s:ByteArray):Nat→Nat→List Tok→List Tok × Nat × Int
 | 0,_,acc=>(acc++[⟨0,⟨#[]⟩,0,s.size⟩],0,0)
 | n+1,k,acc =>
  if k<s.size then
   if (tokC s k).2=0 then
    if acc.length+1<16384 then scanC s n (afterTo s (k+(tokC s k).1.text.size)) (acc++[(tokC s k).1]) else ([],k,6)
   else ([],k,(tokC s k).2)
  else (acc++[⟨0,⟨#[]⟩,0,s.size⟩],0,0)
theorem scanC_eq(s:ByteArray):∀n k acc,scanN s n k acc=scanC s n k acc
 | 0,_,_=>rfl
 | n+1,k,acc=>by
  unfold scanN scanC
  rw[tokC_eq,scanC_eq s n]
def lexC(s:ByteArray):List Tok × Nat × Int:=if 65536<s.size then ([],65536,4) else scanC s (s.size-afterTo s 0) (afterTo s 0) []
theorem lexC_eq(s:ByteArray):lexOf s=lexC s:=by
 unfold lexOf lexC scanFrom
 rw[scanC_eq]
open Go.RowKit
def wrongVal(k:Nat)(e:Int):Value:=.iface 154 (.agg #[.string ⟨#[110,111,32,116,111,107,101,110,115]⟩,.int .i64 k,.int .i64 e])
def tokCells(t:Tok):List Value:=[.int .u8 t.kind,.string t.text,.int .i64 t.int,.int .i64 t.place]
def toksCells(l:List Tok):List Value:=l.flatMap tokCells
theorem toksCells_snoc(l:List Tok)(t:Tok):toksCells (l++[t])=toksCells l++tokCells t:=by simp[toksCells]
theorem Tryz.infoToken:(Tryz.prog.info? 72).map (fun i=>(i.zero,i.size,i.bytes))=some (some (.agg #[.int .u8 0,.string ⟨#[]⟩,.int .i64 0,.int .i64 0]),4,40):=by kernel_rfl
theorem toksCells_at(l:List Tok)(k:Nat)(hk:k<l.length)(i:Nat)(hi:i<4):(toksCells l)[k*4+i]?=(tokCells l[k])[i]?:=by
 induction l generalizing k with
 | nil=>simp at hk
 | cons t r ih =>
  simp only[toksCells,List.flatMap_cons] at *
  have h4:(tokCells t).length=4:=rfl
  cases k with
  | zero =>
   rw[List.getElem?_append_left (by omega)]
   simp
  | succ k =>
   rw[List.getElem?_append_right (by omega),h4,show(k+1)*4+i-4=k*4+i by omega]
   simpa using ih k (by simpa using hk)
theorem pLetter_calls(c:Int)(w:World):Calls Tryz.prog 116 #[.int .u8 c] w fun e w'=>e=.returned (.bool (letterB c))∧w'=w:=by
 have hl:letterB c=decide ((65≤c∧c≤90)∨(97≤c∧c≤122)∨c=95):=rfl
 have HL:Hid _:=hl
 clear hl
 go_enter Tryz.func116,Tryz.ntmps116
 go_wp2
 all_goals
  go_ret
  refine⟨?_,rfl⟩
  rw[HL.out]
  try (refine congrArg (fun b=>Ending.returned (.bool b)) ?_)
  rw[Bool.eq_iff_iff]
  simp
  try omega
theorem pDigit_calls(c:Int)(w:World):Calls Tryz.prog 115 #[.int .u8 c] w fun e w'=>e=.returned (.bool (digitB c))∧w'=w:=by
 have hl:digitB c=decide (48≤c∧c≤57):=rfl
 have HL:Hid _:=hl
 clear hl
 go_enter Tryz.func115,Tryz.ntmps115
 go_wp2
 all_goals
  go_ret
  refine⟨?_,rfl⟩
  rw[HL.out]
  try (refine congrArg (fun b=>Ending.returned (.bool b)) ?_)
  rw[Bool.eq_iff_iff]
  simp
  try omega
def onB(c:Int):Bool:=decide (c≠10)
def partB(c:Int):Bool:=letterB c||digitB c
theorem pOn_calls(c:Int)(w:World):Calls Tryz.prog 113 #[.int .u8 c] w fun e w'=>e=.returned (.bool (onB c))∧w'=w:=by
 have hl:onB c=decide (c≠10):=rfl
 have HL:Hid _:=hl
 clear hl
 go_enter Tryz.func113,Tryz.ntmps113
 go_wp2
 all_goals
  go_ret
  refine⟨?_,rfl⟩
  rw[HL.out]
  try (refine congrArg (fun b=>Ending.returned (.bool b)) ?_)
  rw[Bool.eq_iff_iff]
  simp
  try omega
theorem pPart_calls(c:Int)(w:World):Calls Tryz.prog 117 #[.int .u8 c] w fun e w'=>e=.returned (.bool (partB c))∧w'=w:=by
 have hl:partB c=(letterB c||digitB c):=rfl
 have HL:Hid _:=hl
 clear hl
 rcases h1:letterB c with _|_
 ·go_enter Tryz.func117,Tryz.ntmps117
  go_wp2_with fail
  refine(pLetter_calls c _).mono ?_
  rintro e w' ⟨rfl,rfl⟩
  rw[h1]
  go_wp2_with fail
  refine(pDigit_calls c _).mono ?_
  rintro e w' ⟨rfl,rfl⟩
  go_wp2_with fail
  go_ret
  exact⟨bool_ret (by rw[HL.out,h1,Bool.false_or]),rfl⟩
 ·go_enter Tryz.func117,Tryz.ntmps117
  go_wp2_with fail
  refine(pLetter_calls c _).mono ?_
  rintro e w' ⟨rfl,rfl⟩
  rw[h1]
  go_wp2_with fail
  go_ret
  exact⟨bool_ret (by rw[HL.out,h1,Bool.true_or]),rfl⟩
theorem pByte_calls(s:ByteArray)(k:Nat)(w:World):Calls Tryz.prog 111 #[.string s,.int .i64 k] w fun e w'=>e=.returned (.int .u8 (byteAt s k))∧w'=w:=by
 by_cases h:k<s.size
 ·have HB:=hid (byteAt_lt h)
  go_enter Tryz.func111,Tryz.ntmps111
  go_wp2
  go_ret
  exact⟨by rw[HB.out];rfl,rfl⟩
 ·have HB:Hid (byteAt s k=0):=by simp[Hid,byteAt,h]
  go_enter Tryz.func111,Tryz.ntmps111
  go_wp2
  go_ret
  exact⟨by rw[HB.out];rfl,rfl⟩
def twoIf(b:Bool):Int:=if b=true then 2 else 1
theorem pTwo_calls(b:Bool)(w:World):Calls Tryz.prog 114 #[.bool b] w fun e w'=>e=.returned (.int .i64 (twoIf b))∧w'=w:=by
 cases b
 ·go_enter Tryz.func114,Tryz.ntmps114
  go_wp2
  go_ret
  exact⟨rfl,rfl⟩
 ·go_enter Tryz.func114,Tryz.ntmps114
  go_wp2
  go_ret
  exact⟨rfl,rfl⟩
theorem lineEnd_on{s:ByteArray}{k:Nat}(h:k<s.size)(g:onB (byteAt s k)=true):lineEnd s (k+1)=lineEnd s k:=lineEnd_step h (by simpa [onB] using g)
theorem lineEnd_off{s:ByteArray}{k:Nat}(h:¬k<s.size∨onB (byteAt s k)=false):lineEnd s k=k:=lineEnd_here (h.elim Or.inl fun g=>Or.inr (by simpa [onB] using g))
theorem wordEnd_on{s:ByteArray}{k:Nat}(h:k<s.size)(g:partB (byteAt s k)=true):wordEnd s (k+1)=wordEnd s k:=wordEnd_step h (by simpa [partB] using g)
theorem wordEnd_off{s:ByteArray}{k:Nat}(h:¬k<s.size∨partB (byteAt s k)=false):wordEnd s k=k:=wordEnd_here (h.elim Or.inl fun g=>Or.inr (by simpa [partB] using g))
theorem digitEnd_on{s:ByteArray}{k:Nat}(h:k<s.size)(g:digitB (byteAt s k)=true):digitEnd s (k+1)=digitEnd s k:=digitEnd_step h g
theorem digitEnd_off{s:ByteArray}{k:Nat}(h:¬k<s.size∨digitB (byteAt s k)=false):digitEnd s k=k:=digitEnd_here h
set_option maxHeartbeats 1600000 in
theorem run1_calls(s:ByteArray)(w:World)(hs:s.size≤1048576):Calls Tryz.prog 112 #[.string s,.func (.func 113) #[] #[]] w fun e w'=>e=.returned (.int .i64 (lineEnd s 0))∧w'=w:=by
 go_enter Tryz.func112,Tryz.ntmps112
 go_wp2
 go_loop [5] (fun i=>∃k:Nat,k≤s.size∧i=.int .i64 k∧Hid (lineEnd s k=lineEnd s 0)) (fun i=>s.size-(intOf i).toNat)
 case atStart=>exact⟨0,Nat.zero_le _,rfl,rfl⟩
 case round =>
  obtain⟨k,hk,rfl,HK⟩:=hrel
  by_cases hlt:k<s.size
  ·have HB:=hid (byteAt_lt hlt)
   rcases hd:onB (s[k].toNat:Int) with _|_
   ·have HJ:Hid (lineEnd s 0=k):=by rw[Hid,←HK.out];exact lineEnd_off (Or.inr (by rw[HB.out];exact hd))
    go_wp2_with fail
    refine(pOn_calls _ _).mono ?_
    rintro e w' ⟨rfl,rfl⟩
    rw[hd]
    go_wp2_with fail
    go_ret
    exact⟨by rw[HJ.out];rfl,rfl⟩
   ·have HD:Hid _:=hd
    go_wp2_with fail
    refine(pOn_calls _ _).mono ?_
    rintro e w' ⟨rfl,rfl⟩
    rw[hd]
    go_wp2_with fail
    go_round
    case rel=>exact⟨k+1,by omega,by go_num,by rw[Hid,←HK.out];exact lineEnd_on hlt (by rw[HB.out];exact HD.out)⟩
    case measure=>simp[intOf];omega
  ·have HJ:Hid (lineEnd s 0=k):=by rw[Hid,←HK.out];exact lineEnd_off (Or.inl hlt)
   go_wp2_with fail
   go_ret
   exact⟨by rw[HJ.out];rfl,rfl⟩
set_option maxHeartbeats 1600000 in
theorem run2_calls(s:ByteArray)(w:World)(hs:s.size≤1048576):Calls Tryz.prog 112 #[.string s,.func (.func 115) #[] #[]] w fun e w'=>e=.returned (.int .i64 (digitEnd s 0))∧w'=w:=by
 go_enter Tryz.func112,Tryz.ntmps112
 go_wp2
 go_loop [5] (fun i=>∃k:Nat,k≤s.size∧i=.int .i64 k∧Hid (digitEnd s k=digitEnd s 0)) (fun i=>s.size-(intOf i).toNat)
 case atStart=>exact⟨0,Nat.zero_le _,rfl,rfl⟩
 case round =>
  obtain⟨k,hk,rfl,HK⟩:=hrel
  by_cases hlt:k<s.size
  ·have HB:=hid (byteAt_lt hlt)
   rcases hd:digitB (s[k].toNat:Int) with _|_
   ·have HJ:Hid (digitEnd s 0=k):=by rw[Hid,←HK.out];exact digitEnd_off (Or.inr (by rw[HB.out];exact hd))
    go_wp2_with fail
    refine(pDigit_calls _ _).mono ?_
    rintro e w' ⟨rfl,rfl⟩
    rw[hd]
    go_wp2_with fail
    go_ret
    exact⟨by rw[HJ.out];rfl,rfl⟩
   ·have HD:Hid _:=hd
    go_wp2_with fail
    refine(pDigit_calls _ _).mono ?_
    rintro e w' ⟨rfl,rfl⟩
    rw[hd]
    go_wp2_with fail
    go_round
    case rel=>exact⟨k+1,by omega,by go_num,by rw[Hid,←HK.out];exact digitEnd_on hlt (by rw[HB.out];exact HD.out)⟩
    case measure=>simp[intOf];omega
  ·have HJ:Hid (digitEnd s 0=k):=by rw[Hid,←HK.out];exact digitEnd_off (Or.inl hlt)
   go_wp2_with fail
   go_ret
   exact⟨by rw[HJ.out];rfl,rfl⟩
set_option maxHeartbeats 1600000 in
theorem run3_calls(s:ByteArray)(w:World)(hs:s.size≤1048576):Calls Tryz.prog 112 #[.string s,.func (.func 117) #[] #[]] w fun e w'=>e=.returned (.int .i64 (wordEnd s 0))∧w'=w:=by
 go_enter Tryz.func112,Tryz.ntmps112
 go_wp2
 go_loop [5] (fun i=>∃k:Nat,k≤s.size∧i=.int .i64 k∧Hid (wordEnd s k=wordEnd s 0)) (fun i=>s.size-(intOf i).toNat)
 case atStart=>exact⟨0,Nat.zero_le _,rfl,rfl⟩
 case round =>
  obtain⟨k,hk,rfl,HK⟩:=hrel
  by_cases hlt:k<s.size
  ·have HB:=hid (byteAt_lt hlt)
   rcases hd:partB (s[k].toNat:Int) with _|_
   ·have HJ:Hid (wordEnd s 0=k):=by rw[Hid,←HK.out];exact wordEnd_off (Or.inr (by rw[HB.out];exact hd))
    go_wp2_with fail
    refine(pPart_calls _ _).mono ?_
    rintro e w' ⟨rfl,rfl⟩
    rw[hd]
    go_wp2_with fail
    go_ret
    exact⟨by rw[HJ.out];rfl,rfl⟩
   ·have HD:Hid _:=hd
    go_wp2_with fail
    refine(pPart_calls _ _).mono ?_
    rintro e w' ⟨rfl,rfl⟩
    rw[hd]
    go_wp2_with fail
    go_round
    case rel=>exact⟨k+1,by omega,by go_num,by rw[Hid,←HK.out];exact wordEnd_on hlt (by rw[HB.out];exact HD.out)⟩
    case measure=>simp[intOf];omega
  ·have HJ:Hid (wordEnd s 0=k):=by rw[Hid,←HK.out];exact wordEnd_off (Or.inl hlt)
   go_wp2_with fail
   go_ret
   exact⟨by rw[HJ.out];rfl,rfl⟩
end Go.Proofs.YthbgnpkgglbhjaaGreatDoor
