import Derived.Test.YthbgnpkgglbhjaaGreatDoorLater
namespace Go.Proofs.YthbgnpkgglbhjaaGreatDoor
theorem bool_ret{a b:Bool}(h:a=b):Ending.returned (.bool a)=.returned (.bool b):=by rw[h]
def byteAt(s:ByteArray)(k:Nat):Int:=if h:k<s.size then (s[k].toNat:Int) else 0
theorem byteAt_lt{s:ByteArray}{k:Nat}(h:k<s.size):byteAt s k=(s[k].toNat:Int):=by simp[byteAt,h]
def letterB(c:Int):Bool:=decide ((65≤c∧c≤90)∨(97≤c∧c≤122)∨c=95)
def digitB(c:Int):Bool:=decide (48≤c∧c≤57)
def wordList : List (List UInt8) := [[110, 111, 100, 101], [102, 108, 111, 119], [114, 101, 116, 117, 114, 110, 115], [118, 97, 114], [108, 101, 116], [116, 101, 108], [105, 110, 116], [98, 111, 111, 108], [114, 97, 116, 101], [100, 117, 101], [105, 102], [116, 104, 101, 110], [101, 108, 115, 101], [97, 110, 100], [111, 114], [110, 111, 116], [116, 114, 117, 101], [102, 97, 108, 115, 101], [102, 98, 121], [116, 97, 105, 108]]
def wordTexts:List ByteArray:=[⟨#[110,111,100,101]⟩,⟨#[102,108,111,119]⟩,⟨#[114,101,116,117,114,110,115]⟩,⟨#[118,97,114]⟩,⟨#[108,101,116]⟩,⟨#[116,101,108]⟩,⟨#[105,110,116]⟩,⟨#[98,111,111,108]⟩,⟨#[114,97,116,101]⟩,⟨#[100,117,101]⟩,⟨#[105,102]⟩,⟨#[116,104,101,110]⟩,⟨#[101,108,115,101]⟩,⟨#[97,110,100]⟩,⟨#[111,114]⟩,⟨#[110,111,116]⟩,⟨#[116,114,117,101]⟩,⟨#[102,97,108,115,101]⟩,⟨#[102,98,121]⟩,⟨#[116,97,105,108]⟩]
theorem wordTexts_list : wordTexts.map (·.data.toList) = wordList := rfl
def inB(l:List ByteArray)(s:ByteArray):Bool:=decide (∃x∈l,x.toList=s.toList)
def wordB(s:ByteArray):Bool:=decide (s.data.toList∈wordList)
theorem inB_words(s:ByteArray):inB wordTexts s=wordB s:=by
 unfold inB wordB
 rw[decide_eq_decide,←wordTexts_list]
 simp only[ByteArray.toList_eq,List.mem_map]
def plainB(s:ByteArray)(k:Nat):Bool:=decide (∀j,j<k→letterB (byteAt s j)=true∨digitB (byteAt s j)=true)
theorem plainB_zero(s:ByteArray):plainB s 0=true:=by simp[plainB]
theorem plainB_succ(s:ByteArray)(k:Nat)(h:plainB s k=true)(g:letterB (byteAt s k)=true∨digitB (byteAt s k)=true):plainB s (k+1)=true:=by
 simp only[plainB,decide_eq_true_eq] at *
 intro j hj
 by_cases e:j=k
 ·subst e;exact g
 ·exact h j (by omega)
theorem plainB_not(s:ByteArray)(k n:Nat)(h:k<n)(g:letterB (byteAt s k)=false)(d:digitB (byteAt s k)=false):plainB s n=false:=by
 simp only[plainB,decide_eq_false_iff_not]
 intro a
 have:=a k h
 simp[g,d] at this
def nameB(s:ByteArray):Bool:=decide (0<s.size∧s.size≤32∧letterB (byteAt s 0)=true∧wordB s=false∧plainB s s.size=true)
end Go.Proofs.YthbgnpkgglbhjaaGreatDoor
