import Derived.Test.YthbgnpkgglbhjaaGreatDoorLexBegun
namespace Go.Proofs.YthbgnpkgglbhjaaGreatDoor
theorem extract_of_bytes{s t:ByteArray}{k:Nat}(hs:k+t.size≤s.size)(h:∀j,j<t.size→byteAt s (k+j)=byteAt t j):s.extract k (k+t.size)=t:=by
 apply ba_ext
 apply List.ext_getElem
 ·rw[size_list,size_list,ByteArray.size_extract]
  omega
 ·intro i h1 h2
  rw[size_list] at h2
  have h3:i<(s.extract k (k+t.size)).size:=by rw[←size_list];exact h1
  have e1:=byteAt_extract s k (k+t.size) i (by omega) (by omega)
  rw[h i h2,byteAt_lt h3,byteAt_lt h2] at e1
  have e2:((s.extract k (k+t.size))[i]'h3).toNat=(t[i]'h2).toNat:=by omega
  exact UInt8.toNat_inj.1 e2
theorem byteAt_far{s:ByteArray}{k:Nat}(h:¬k<s.size):byteAt s k=0:=by simp[byteAt,h]
theorem stands1(s:ByteArray)(k:Nat)(hk:k<s.size)(c:UInt8):standsB s k ⟨#[c]⟩=(byteAt s k==(c.toNat:Int)):=by
 rw[Bool.eq_iff_iff,beq_iff_eq]
 constructor
 ·intro h
  exact stands_at h (j:=0) (show 0<1 by decide)
 ·intro h
  refine stands_of (extract_of_bytes (show k+1≤s.size by omega) fun j hj=>?_) (show k+1≤s.size by omega)
  have hj':j<1:=hj
  obtain rfl:j=0:=by omega
  exact h
theorem stands2(s:ByteArray)(k:Nat)(hk:k<s.size)(c d:UInt8)(hd:(d.toNat:Int)≠0):standsB s k ⟨#[c,d]⟩=(byteAt s k==(c.toNat:Int)&&byteAt s (k+1)==(d.toNat:Int)):=by
 rw[Bool.eq_iff_iff,Bool.and_eq_true,beq_iff_eq,beq_iff_eq]
 constructor
 ·intro h
  exact⟨stands_at h (j:=0) (show 0<2 by decide),stands_at h (j:=1) (show 1<2 by decide)⟩
 ·rintro⟨h1,h2⟩
  have hk2:k+1<s.size:=by
   rcases Nat.lt_or_ge (k+1) s.size with hx|hx
   ·exact hx
   ·rw[byteAt_far (by omega)] at h2
    exact absurd h2.symm hd
  refine stands_of (extract_of_bytes (show k+2≤s.size by omega) fun j hj=>?_) (show k+2≤s.size by omega)
  have hj':j<2:=hj
  rcases(show j=0∨j=1 by omega) with rfl|rfl
  ·exact h1
  ·exact h2
def signBy(a b:Int):Option ByteArray:=(([((a==42&&b==94),⟨#[42,94]⟩),((a==47&&b==94),⟨#[47,94]⟩),((a==126&&b==62),⟨#[126,62]⟩),((a==58&&b==58),⟨#[58,58]⟩),((a==60&&b==62),⟨#[60,62]⟩),((a==60&&b==61),⟨#[60,61]⟩),((a==62&&b==61),⟨#[62,61]⟩),((a==40),⟨#[40]⟩),((a==41),⟨#[41]⟩),((a==59),⟨#[59]⟩),((a==58),⟨#[58]⟩),((a==44),⟨#[44]⟩),((a==61),⟨#[61]⟩),((a==60),⟨#[60]⟩),((a==62),⟨#[62]⟩),((a==43),⟨#[43]⟩),((a==45),⟨#[45]⟩),((a==42),⟨#[42]⟩),((a==47),⟨#[47]⟩),((a==37),⟨#[37]⟩)]:List (Bool × ByteArray)).find? (·.1)).map (·.2)
theorem find_pairs(p:ByteArray→Bool):∀l:List ByteArray,l.find? p=((l.map fun t=>(p t,t)).find? (·.1)).map (·.2)
 | []=>rfl
 | t::r=>by
  rw[List.find?_cons,List.map_cons,List.find?_cons,find_pairs p r]
  cases p t<;>rfl
theorem signAt_by{s:ByteArray}{k:Nat}(hk:k<s.size):signAt s k signTexts=signBy (byteAt s k) (byteAt s (k+1)):=by
 unfold signAt
 rw[find_pairs,signBy,signTexts]
 simp only[List.map_cons,List.map_nil]
 rw[stands2 s k hk 42 94 (by decide)]
 rw[stands2 s k hk 47 94 (by decide)]
 rw[stands2 s k hk 126 62 (by decide)]
 rw[stands2 s k hk 58 58 (by decide)]
 rw[stands2 s k hk 60 62 (by decide)]
 rw[stands2 s k hk 60 61 (by decide)]
 rw[stands2 s k hk 62 61 (by decide)]
 rw[stands1 s k hk 40]
 rw[stands1 s k hk 41]
 rw[stands1 s k hk 59]
 rw[stands1 s k hk 58]
 rw[stands1 s k hk 44]
 rw[stands1 s k hk 61]
 rw[stands1 s k hk 60]
 rw[stands1 s k hk 62]
 rw[stands1 s k hk 43]
 rw[stands1 s k hk 45]
 rw[stands1 s k hk 42]
 rw[stands1 s k hk 47]
 rw[stands1 s k hk 37]
 rfl
theorem sign_there{s:ByteArray}{k:Nat}(hk:k<s.size)(hl:letterB (byteAt s k)=false)(hd:digitB (byteAt s k)=false){t:ByteArray}(h:signBy (byteAt s k) (byteAt s (k+1))=some t):tokenOf s k=(⟨4,s.extract k (k+t.size),0,k⟩,0)∧k+t.size≤s.size:=by
 rw[←signAt_by hk] at h
 have h1:=List.find?_some h
 have h2:=stands_size h1
 refine⟨?_,by omega⟩
 rw[stands_text h1]
 unfold tokenOf
 rw[if_neg (by simp[hl]),if_neg (by simp[hd]),h]
 rfl
theorem sign_none{s:ByteArray}{k:Nat}(hk:k<s.size)(hl:letterB (byteAt s k)=false)(hd:digitB (byteAt s k)=false)(h:signBy (byteAt s k) (byteAt s (k+1))=none):tokenOf s k=(⟨0,⟨#[]⟩,0,0⟩,30):=by
 unfold tokenOf
 rw[if_neg (by simp[hl]),if_neg (by simp[hd]),signAt_by hk,h]
 rfl
theorem byteAt_rest{s:ByteArray}{k:Nat}(hk:k<s.size)(j:Nat):byteAt (s.extract k s.size) j=byteAt s (k+j):=by
 by_cases h:k+j<s.size
 ·exact byteAt_extract s k s.size j (Nat.le_refl _) h
 ·rw[byteAt_far h,byteAt_far]
  rw[ByteArray.size_extract]
  omega
theorem size_rest(s:ByteArray)(k:Nat):(s.extract k s.size).size=s.size-k:=by rw[ByteArray.size_extract];omega
theorem lineEnd_rest{s:ByteArray}{k:Nat}(hk:k<s.size)(j:Nat):k+lineEnd (s.extract k s.size) j=lineEnd s (k+j):=by
 induction hm:s.size-(k+j) using Nat.strongRecOn generalizing j with
 | ind m ih =>
  rw[lineEnd_eq (s.extract k s.size),lineEnd_eq s (k+j),byteAt_rest hk,size_rest]
  by_cases h:k+j<s.size∧byteAt s (k+j)≠10
  ·rw[if_pos h,if_pos ⟨by omega,h.2⟩]
   exact ih (s.size-(k+(j+1))) (by omega) (j+1) rfl
  ·rw[if_neg h,if_neg (fun g=>h ⟨by omega,g.2⟩)]
theorem digitEnd_rest{s:ByteArray}{k:Nat}(hk:k<s.size)(j:Nat):k+digitEnd (s.extract k s.size) j=digitEnd s (k+j):=by
 induction hm:s.size-(k+j) using Nat.strongRecOn generalizing j with
 | ind m ih =>
  rw[digitEnd_eq (s.extract k s.size),digitEnd_eq s (k+j),byteAt_rest hk,size_rest]
  by_cases h:k+j<s.size∧digitB (byteAt s (k+j))=true
  ·rw[if_pos h,if_pos ⟨by omega,h.2⟩]
   exact ih (s.size-(k+(j+1))) (by omega) (j+1) rfl
  ·rw[if_neg h,if_neg (fun g=>h ⟨by omega,g.2⟩)]
theorem wordEnd_rest{s:ByteArray}{k:Nat}(hk:k<s.size)(j:Nat):k+wordEnd (s.extract k s.size) j=wordEnd s (k+j):=by
 induction hm:s.size-(k+j) using Nat.strongRecOn generalizing j with
 | ind m ih =>
  rw[wordEnd_eq (s.extract k s.size),wordEnd_eq s (k+j),byteAt_rest hk,size_rest]
  by_cases h:k+j<s.size∧(letterB (byteAt s (k+j))=true∨digitB (byteAt s (k+j))=true)
  ·rw[if_pos h,if_pos ⟨by omega,h.2⟩]
   exact ih (s.size-(k+(j+1))) (by omega) (j+1) rfl
  ·rw[if_neg h,if_neg (fun g=>h ⟨by omega,g.2⟩)]
theorem begun_rest{s:ByteArray}{k:Nat}(hk:k<s.size):begunOf (s.extract k s.size)=begunBy (byteAt s k) (byteAt s (k+1)) ((lineEnd s k:Int)-k) ((digitEnd s k:Int)-k) ((wordEnd s k:Int)-k):=by
 unfold begunOf
 have h1:=lineEnd_rest hk 0
 have h2:=digitEnd_rest hk 0
 have h3:=wordEnd_rest hk 0
 rw[Nat.add_zero] at h1 h2 h3
 rw[byteAt_rest hk,byteAt_rest hk,Nat.add_zero]
 rw[show((lineEnd (s.extract k s.size) 0:Nat):Int)=(lineEnd s k:Int)-k by omega,show((digitEnd (s.extract k s.size) 0:Nat):Int)=(digitEnd s k:Int)-k by omega,show((wordEnd (s.extract k s.size) 0:Nat):Int)=(wordEnd s k:Int)-k by omega]
theorem begun_gap{s:ByteArray}{k:Nat}(hk:k<s.size)(h:blankB (byteAt s k)=true∨hyphensB s k=true):∃m:Nat,begunOf (s.extract k s.size)=(255,(m:Int))∧0<m∧k+m≤s.size∧afterTo s (k+m)=afterTo s k:=by
 rw[begun_rest hk]
 by_cases hb:blankB (byteAt s k)=true
 ·refine⟨1,?_,by omega,by omega,afterTo_blank hk hb⟩
  simp only[blankB,decide_eq_true_eq] at hb
  rcases hb with e|e|e|e<;>rw[e]<;>rfl
 ·have hh:=h.resolve_left hb
  have h2:=hyphens_gt hk hh
  have h3:=lineEnd_le s k (by omega)
  refine⟨lineEnd s k-k,?_,by omega,by omega,?_⟩
  ·simp only[hyphensB,decide_eq_true_eq] at hh
   rw[hh.1,hh.2.2,show((lineEnd s k-k:Nat):Int)=(lineEnd s k:Int)-k by omega]
   rfl
  ·rw[show k+(lineEnd s k-k)=lineEnd s k by omega]
   exact afterTo_remark hk (by simpa using hb) hh
set_option linter.unusedSimpArgs false in
theorem begun_tok{s:ByteArray}{k:Nat}(hk:k<s.size)(hb:blankB (byteAt s k)=false)(hh:hyphensB s k=false) :
  (begunOf (s.extract k s.size)=(254,0)∧tokenOf s k=(⟨0,⟨#[]⟩,0,0⟩,30)) ∨
  (∃m:Nat,begunOf (s.extract k s.size)=(4,(m:Int))∧0<m∧k+m≤s.size∧tokenOf s k=(⟨4,s.extract k (k+m),0,k⟩,0)) ∨
  (∃m:Nat,begunOf (s.extract k s.size)=(1,(m:Int))∧0<m∧k+m=wordEnd s k∧letterB (byteAt s k)=true) ∨
  (∃m:Nat,begunOf (s.extract k s.size)=(2,(m:Int))∧0<m∧k+m=digitEnd s k∧letterB (byteAt s k)=false∧digitB (byteAt s k)=true):=by
 rw[begun_rest hk]
 by_cases hl:letterB (byteAt s k)=true
 ·right;right;left
  have h4:k<wordEnd s k:=by
   rw[←wordEnd_step hk (Or.inl hl)]
   have:=wordEnd_ge s (k+1)
   omega
  refine⟨wordEnd s k-k,?_,by omega,by omega,hl⟩
  rw[show((wordEnd s k-k:Nat):Int)=(wordEnd s k:Int)-k by omega]
  have hl2:=hl
  simp only[letterB,decide_eq_true_eq] at hl2
  have hd:digitB (byteAt s k)=false:=by
   simp only[digitB,decide_eq_false_iff_not]
   omega
  generalize byteAt s k=a at *
  generalize byteAt s (k+1)=b at *
  unfold begunBy
  rw[if_neg (by simp;omega),if_neg (by simp;omega),if_neg (by simp;omega),if_neg (by simp;omega),if_neg (by simp;omega),if_neg (by simp;omega),if_neg (by simp;omega),if_neg (by simp;omega),if_neg (by simp[hd]),if_pos hl]
 ·have hl':letterB (byteAt s k)=false:=by simpa using hl
  by_cases hd:digitB (byteAt s k)=true
  ·right;right;right
   have h4:k<digitEnd s k:=by
    rw[←digitEnd_step hk hd]
    have:=digitEnd_ge s (k+1)
    omega
   refine⟨digitEnd s k-k,?_,by omega,by omega,hl',hd⟩
   rw[show((digitEnd s k-k:Nat):Int)=(digitEnd s k:Int)-k by omega]
   have hd2:=hd
   simp only[digitB,decide_eq_true_eq] at hd2
   generalize byteAt s k=a at *
   generalize byteAt s (k+1)=b at *
   unfold begunBy
   rw[if_neg (by simp;omega),if_neg (by simp;omega),if_neg (by simp;omega),if_neg (by simp;omega),if_neg (by simp;omega),if_neg (by simp;omega),if_neg (by simp;omega),if_neg (by simp;omega),if_pos hd]
  ·have hd':digitB (byteAt s k)=false:=by simpa using hd
   have T:=@sign_there s k hk hl' hd'
   have N:=sign_none hk hl' hd'
   have hhy:¬(byteAt s k=45∧byteAt s (k+1)=45):=by
    rintro⟨e1,e2⟩
    simp only[hyphensB,decide_eq_false_iff_not] at hh
    refine hh ⟨e1,?_,e2⟩
    rcases Nat.lt_or_ge (k+1) s.size with hx|hx
    ·exact hx
    ·rw[byteAt_far (by omega)] at e2
     exact absurd e2 (by decide)
   clear hh hl hd
   generalize byteAt s k=a at *
   generalize byteAt s (k+1)=b at *
   simp only[blankB,decide_eq_false_iff_not] at hb
   by_cases a42:a=42
   ·subst a42
    by_cases b94:b=94
    ·subst b94
     obtain⟨e1,e2⟩:=T (t:=⟨#[42,94]⟩) (by simp[signBy, *])
     exact Or.inr (Or.inl ⟨2,by simp[begunBy,twoIf, *],by omega,e2,e1⟩)
    ·skip
     obtain⟨e1,e2⟩:=T (t:=⟨#[42]⟩) (by simp[signBy, *])
     exact Or.inr (Or.inl ⟨1,by simp[begunBy,twoIf, *],by omega,e2,e1⟩)
   ·skip
    by_cases a47:a=47
    ·subst a47
     by_cases b94:b=94
     ·subst b94
      obtain⟨e1,e2⟩:=T (t:=⟨#[47,94]⟩) (by simp[signBy, *])
      exact Or.inr (Or.inl ⟨2,by simp[begunBy,twoIf, *],by omega,e2,e1⟩)
     ·skip
      obtain⟨e1,e2⟩:=T (t:=⟨#[47]⟩) (by simp[signBy, *])
      exact Or.inr (Or.inl ⟨1,by simp[begunBy,twoIf, *],by omega,e2,e1⟩)
    ·skip
     by_cases a126:a=126
     ·subst a126
      by_cases b62:b=62
      ·subst b62
       obtain⟨e1,e2⟩:=T (t:=⟨#[126,62]⟩) (by simp[signBy, *])
       exact Or.inr (Or.inl ⟨2,by simp[begunBy,twoIf, *],by omega,e2,e1⟩)
      ·skip
       exact Or.inl ⟨by simp[begunBy,twoIf,hl',hd', *],N (by simp[signBy, *])⟩
     ·skip
      by_cases a58:a=58
      ·subst a58
       by_cases b58:b=58
       ·subst b58
        obtain⟨e1,e2⟩:=T (t:=⟨#[58,58]⟩) (by simp[signBy, *])
        exact Or.inr (Or.inl ⟨2,by simp[begunBy,twoIf, *],by omega,e2,e1⟩)
       ·skip
        obtain⟨e1,e2⟩:=T (t:=⟨#[58]⟩) (by simp[signBy, *])
        exact Or.inr (Or.inl ⟨1,by simp[begunBy,twoIf, *],by omega,e2,e1⟩)
      ·skip
       by_cases a60:a=60
       ·subst a60
        by_cases b62:b=62
        ·subst b62
         obtain⟨e1,e2⟩:=T (t:=⟨#[60,62]⟩) (by simp[signBy, *])
         exact Or.inr (Or.inl ⟨2,by simp[begunBy,twoIf, *],by omega,e2,e1⟩)
        ·skip
         by_cases b61:b=61
         ·subst b61
          obtain⟨e1,e2⟩:=T (t:=⟨#[60,61]⟩) (by simp[signBy, *])
          exact Or.inr (Or.inl ⟨2,by simp[begunBy,twoIf, *],by omega,e2,e1⟩)
         ·skip
          obtain⟨e1,e2⟩:=T (t:=⟨#[60]⟩) (by simp[signBy, *])
          exact Or.inr (Or.inl ⟨1,by simp[begunBy,twoIf, *],by omega,e2,e1⟩)
       ·skip
        by_cases a62:a=62
        ·subst a62
         by_cases b61:b=61
         ·subst b61
          obtain⟨e1,e2⟩:=T (t:=⟨#[62,61]⟩) (by simp[signBy, *])
          exact Or.inr (Or.inl ⟨2,by simp[begunBy,twoIf, *],by omega,e2,e1⟩)
         ·skip
          obtain⟨e1,e2⟩:=T (t:=⟨#[62]⟩) (by simp[signBy, *])
          exact Or.inr (Or.inl ⟨1,by simp[begunBy,twoIf, *],by omega,e2,e1⟩)
        ·skip
         by_cases a40:a=40
         ·subst a40
          obtain⟨e1,e2⟩:=T (t:=⟨#[40]⟩) (by simp[signBy, *])
          exact Or.inr (Or.inl ⟨1,by simp[begunBy,twoIf, *],by omega,e2,e1⟩)
         ·skip
          by_cases a41:a=41
          ·subst a41
           obtain⟨e1,e2⟩:=T (t:=⟨#[41]⟩) (by simp[signBy, *])
           exact Or.inr (Or.inl ⟨1,by simp[begunBy,twoIf, *],by omega,e2,e1⟩)
          ·skip
           by_cases a59:a=59
           ·subst a59
            obtain⟨e1,e2⟩:=T (t:=⟨#[59]⟩) (by simp[signBy, *])
            exact Or.inr (Or.inl ⟨1,by simp[begunBy,twoIf, *],by omega,e2,e1⟩)
           ·skip
            by_cases a44:a=44
            ·subst a44
             obtain⟨e1,e2⟩:=T (t:=⟨#[44]⟩) (by simp[signBy, *])
             exact Or.inr (Or.inl ⟨1,by simp[begunBy,twoIf, *],by omega,e2,e1⟩)
            ·skip
             by_cases a61:a=61
             ·subst a61
              obtain⟨e1,e2⟩:=T (t:=⟨#[61]⟩) (by simp[signBy, *])
              exact Or.inr (Or.inl ⟨1,by simp[begunBy,twoIf, *],by omega,e2,e1⟩)
             ·skip
              by_cases a43:a=43
              ·subst a43
               obtain⟨e1,e2⟩:=T (t:=⟨#[43]⟩) (by simp[signBy, *])
               exact Or.inr (Or.inl ⟨1,by simp[begunBy,twoIf, *],by omega,e2,e1⟩)
              ·skip
               by_cases a45:a=45
               ·subst a45
                have b45:¬b=45:=fun e=>hhy ⟨rfl,e⟩
                obtain⟨e1,e2⟩:=T (t:=⟨#[45]⟩) (by simp[signBy, *])
                exact Or.inr (Or.inl ⟨1,by simp[begunBy,twoIf, *],by omega,e2,e1⟩)
               by_cases a37:a=37
               ·subst a37
                obtain⟨e1,e2⟩:=T (t:=⟨#[37]⟩) (by simp[signBy, *])
                exact Or.inr (Or.inl ⟨1,by simp[begunBy,twoIf, *],by omega,e2,e1⟩)
               ·skip
                refine Or.inl ⟨?_,N (by simp[signBy, *])⟩
                simp only[not_or] at hb
                simp[begunBy, *]
end Go.Proofs.YthbgnpkgglbhjaaGreatDoor
