import Derived.Test.YthbgnpkgglbhjaaGreatDoorShowP
import Derived.Test.YthbgnpkgglbhjaaGreatDoorRdWholes
import Derived.Test.YthbgnpkgglbhjaaGreatDoorSameFacts
namespace Go.Proofs.YthbgnpkgglbhjaaGreatDoor
def Brk(r:List UInt8):Prop:=∀c,r.head?=some c→wordy c=false
def Any(_:List UInt8):Prop:=True
def NoHy(r:List UInt8):Prop:=r.head?≠some 45
def Bl(r:List UInt8):Prop:=∃t,r=32::t
def Dig(r:List UInt8):Prop:=∃c t,r=c::t∧48≤c.toNat∧c.toNat≤57
def bt(t:Tok):Tok:=⟨t.kind,t.text,t.int,0⟩
def Lx(C:List UInt8→Prop)(l:List UInt8)(k:List Tok):Prop :=
 ∀(s:ByteArray)(pre post:List UInt8)(acc:List Tok),s.data.toList=pre++(l++post)→C post →
  (acc.length+k.length<16384→∃ts,ts.map bt=k∧scanFrom s (afterTo s pre.length) acc=scanFrom s (afterTo s (pre.length+l.length)) (acc++ts)) ∧
  (acc.length<16384→16384≤acc.length+k.length→(scanFrom s (afterTo s pre.length) acc).2.2≠0)
theorem Lx.app{C1 C2:List UInt8→Prop}{a b:List UInt8}{k1 k2:List Tok}(h1:Lx C1 a k1)(h2:Lx C2 b k2)(hc:∀post,C2 post→C1 (b++post)):Lx C2 (a++b) (k1++k2):=by
 intro s pre post acc hs hp
 have H1:=h1 s pre (b++post) acc (by rw[hs];simp) (hc post hp)
 have H2:=fun acc'=>h2 s (pre++a) post acc' (by rw[hs];simp) hp
 simp only[List.length_append] at H2 ⊢
 refine⟨fun hl=>?_,fun ha hl=>?_⟩
 ·obtain⟨t1,e1,g1⟩:=H1.1 (by omega)
  have l1:t1.length=k1.length:=by rw[←e1,List.length_map]
  obtain⟨t2,e2,g2⟩:=(H2 (acc++t1)).1 (by rw[List.length_append];omega)
  exact⟨t1++t2,by rw[List.map_append,e1,e2],by rw[g1,g2,List.append_assoc,Nat.add_assoc]⟩
 ·by_cases h:acc.length+k1.length<16384
  ·obtain⟨t1,e1,g1⟩:=H1.1 h
   have l1:t1.length=k1.length:=by rw[←e1,List.length_map]
   rw[g1]
   exact(H2 (acc++t1)).2 (by rw[List.length_append];omega) (by rw[List.length_append];omega)
  ·exact H1.2 ha (by omega)
theorem Lx.mono{C1 C2:List UInt8→Prop}{l:List UInt8}{k:List Tok}(h:Lx C1 l k)(hc:∀p,C2 p→C1 p):Lx C2 l k:=fun s pre post acc hs hp=>h s pre post acc hs (hc post hp)
theorem Lx.nil(C:List UInt8→Prop):Lx C [] []:=fun s pre post acc _ _=>⟨fun _=>⟨[],rfl,by simp⟩,fun h1 h2=>by simp at h2;omega⟩
theorem Lx.blank(c:UInt8)(h:blankB (c.toNat:Int)=true):Lx Any [c] []:=by
 intro s pre post acc hs _
 have hz:pre.length<s.size:=by rw[←size_list,hs];simp
 have hb:=byteAt_mid (i:=0) hs (by simp)
 simp only[Nat.add_zero,List.getElem_cons_zero] at hb
 refine⟨fun _=>⟨[],rfl,?_⟩,fun h1 h2=>by simp at h2;omega⟩
 rw[←afterTo_blank hz (by rw[hb];exact h),List.append_nil]
 rfl
theorem hyphens_not{s:ByteArray}{pre post:List UInt8}{c:UInt8}(hs:s.data.toList=pre++(c::post))(h:c≠45∨NoHy post):hyphensB s pre.length=false:=by
 have hb:=byteAt_mid (i:=0) (mid:=[c]) (rest:=post) (by rw[hs];rfl) (by simp)
 simp only[Nat.add_zero,List.getElem_cons_zero] at hb
 simp only[hyphensB,decide_eq_false_iff_not,hb]
 rintro⟨h1,h2,h3⟩
 rcases h with h|h
 ·exact h (UInt8.toNat_inj.1 (by simp only[UInt8.reduceToNat];omega))
 ·cases post with
  | nil=>rw[←size_list,hs] at h2;simp at h2
  | cons d r =>
   have hb2:=byteAt_mid (i:=1) (mid:=[c,d]) (rest:=r) (by rw[hs];rfl) (by simp)
   simp only[List.getElem_cons_succ,List.getElem_cons_zero] at hb2
   rw[hb2] at h3
   refine h ?_
   have:d=45:=UInt8.toNat_inj.1 (by simp only[UInt8.reduceToNat];omega)
   rw[this]
   rfl
theorem Lx.tok{C:List UInt8→Prop}{c:UInt8}{l:List UInt8}{kd n:Int}(hb:blankB (c.toNat:Int)=false)(hy:c≠45∨∀post,C post→NoHy (l++post))
  (ht:∀(s:ByteArray)(pre post:List UInt8),s.data.toList=pre++(c::l++post)→C post→tokenOf s pre.length=(⟨kd,⟨(c::l).toArray⟩,n,pre.length⟩,0)):Lx C (c::l) [⟨kd,⟨(c::l).toArray⟩,n,0⟩]:=by
 intro s pre post acc hs hp
 have hz:pre.length<s.size:=by rw[←size_list,hs];simp
 have hbt:=byteAt_mid (i:=0) hs (by simp)
 simp only[Nat.add_zero,List.getElem_cons_zero] at hbt
 have ha:afterTo s pre.length=pre.length:=afterTo_here hz (by rw[hbt];exact hb) (hyphens_not (post:=l++post) (by rw[hs];rfl) (hy.imp id fun h=>h post hp))
 have hT:=ht s pre post hs hp
 rw[ha]
 refine⟨fun hl=>⟨[⟨kd,⟨(c::l).toArray⟩,n,pre.length⟩],rfl,?_⟩,fun h1 h2=>?_⟩
 ·rw[←scan_step hz (by rw[hT]) (by simpa using hl),hT]
  rfl
 ·rw[scan_full hz (by rw[hT]) (by simp only[lC,lN] at h2;omega)]
  show(6:Int)≠0
  decide
theorem letter_wordy(c:UInt8):(letterB (c.toNat:Int)=true∨digitB (c.toNat:Int)=true)↔wordy c=true:=by
 simp only[letterB,digitB,wordy,decide_eq_true_eq]
 omega
theorem brk_byte{s:ByteArray}{pre mid post:List UInt8}(hs:s.data.toList=pre++(mid++post))(h:Brk post):letterB (byteAt s (pre.length+mid.length))=false∧digitB (byteAt s (pre.length+mid.length))=false:=by
 cases post with
 | nil =>
  have hz:¬pre.length+mid.length<s.size:=by rw[←size_list,hs];simp
  rw[byteAt,dif_neg hz]
  decide
 | cons d r =>
  have hb:=byteAt_mid (i:=0) (pre:=pre++mid) (mid:=[d]) (rest:=r) (by rw[hs];simp) (by simp)
  simp only[List.length_append,Nat.add_zero,List.getElem_cons_zero] at hb
  rw[hb]
  have h1:=h d rfl
  have h2:=letter_wordy d
  rw[h1] at h2
  refine⟨?_,?_⟩
  ·cases h3:letterB (d.toNat:Int) with
   | false=>rfl
   | true=>exact absurd (h2.1 (Or.inl h3)) (by decide)
  ·cases h3:digitB (d.toNat:Int) with
   | false=>rfl
   | true=>exact absurd (h2.1 (Or.inr h3)) (by decide)
theorem wordy_not_blank{c:UInt8}(h:wordy c=true):blankB (c.toNat:Int)=false∧c≠45:=by
 refine⟨?_,fun e=>by subst e;exact absurd h (by decide)⟩
 simp only[wordy,decide_eq_true_eq] at h
 simp only[blankB,decide_eq_false_iff_not]
 omega
theorem Lx.word{nm:ByteArray}{c:UInt8}{l:List UInt8}(hn:nm.data.toList=c::l)(h1:nm.size≤32)(h2:∀d∈nm.data.toList,wordy d=true)(h3:57<c.toNat):Lx Brk nm.data.toList [⟨if wordB nm=true then 3 else 1,nm,0,0⟩]:=by
 have hnm:nm=⟨(c::l).toArray⟩:=ba_ext (by rw[hn])
 rw[hn] at h2 ⊢
 have hc:=wordy_not_blank (h2 c (by simp))
 have K:=Lx.tok (C:=Brk) (c:=c) (l:=l) (kd:=if wordB nm=true then 3 else 1) (n:=0) hc.1 (Or.inl hc.2) ?_
 ·rw[←hnm] at K;exact K
 ·intro s pre post hs hp
  have hbt:=byteAt_mid (i:=0) hs (by simp)
  simp only[Nat.add_zero,List.getElem_cons_zero] at hbt
  have hL:letterB (byteAt s pre.length)=true:=by
   rw[hbt]
   have:=h2 c (by simp)
   simp only[wordy,decide_eq_true_eq] at this
   simp only[letterB,decide_eq_true_eq]
   omega
  have hsz:pre.length+(c::l).length≤s.size:=by rw[←size_list,hs];simp only[List.length_append];omega
  have hnl:nm.size=(c::l).length:=by rw[←size_list,hn]
  have hW:wordEnd s pre.length=pre.length+(c::l).length:=wordEnd_run s _ _ hsz (fun j hj=>by
   rw[byteAt_mid hs hj]
   exact(letter_wordy _).2 (h2 _ (List.getElem_mem _))) (brk_byte hs hp)
  have hE:s.extract pre.length (pre.length+(c::l).length)=nm:=by rw[←hnl];exact extract_mid (rest:=post) (by rw[hn];exact hs)
  rw[tokenOf,if_pos hL,hW,hE,if_pos (by omega),hnm]
theorem name_lex{nm:ByteArray}(h:nameB nm=true):Lx Brk nm.data.toList [⟨1,nm,0,0⟩]:=by
 obtain⟨h1,h2,h3,h4⟩:=name_bytes h
 have hw:wordB nm=false:=by simp only[nameB,decide_eq_true_eq] at h;exact h.2.2.2.1
 have hs:nm.size≤32:=by simp only[nameB,decide_eq_true_eq] at h;exact h.2.1
 cases hl:nm.data.toList with
 | nil=>exact absurd hl h1
 | cons c l =>
  have K:=Lx.word hl hs h2 (by rw[hl] at h3;exact h3)
  rw[hw,hl] at K
  exact K
theorem numTo_fold(l:List UInt8):∀k,k≤l.length→numTo ⟨l.toArray⟩ k=(l.take k).foldl (fun a c=>a*10+(c.toNat-48)) 0
 | 0,_=>by simp[numTo]
 | k+1,h=>by
  have hk:k<l.length:=by omega
  have hb:byteAt ⟨l.toArray⟩ k=(l[k].toNat:Int):=by
   have:=byteAt_mid (s:=⟨l.toArray⟩) (pre:=[]) (mid:=l) (rest:=[]) (by simp) hk
   simpa using this
  rw[List.take_succ_eq_append_getElem hk,List.foldl_append,←numTo_fold l k (by omega)]
  simp only[numTo,hb,List.foldl_cons,List.foldl_nil]
  omega
theorem dec_digs(u:Nat):∀k,u<10 ^ (k+1)→(Lib.decDigits u).length≤k+1:=by
 induction u using Nat.strongRecOn with
 | _ u ih =>
  intro k hk
  rw[Lib.decDigits]
  split
  ·simp
  ·rename_i h
   cases k with
   | zero=>simp at hk;omega
   | succ k =>
    have:=ih (u / 10) (by omega) k (by rw[Nat.pow_succ] at hk;omega)
    simp only[List.length_append,List.length_cons,List.length_nil]
    omega
theorem dec_head(u:Nat):1<(Lib.decDigits u).length→(Lib.decDigits u).headD 0≠48:=by
 have key:∀u,0<u→(Lib.decDigits u).headD 0≠48:=by
  intro u
  induction u using Nat.strongRecOn with
  | _ u ih =>
   intro hu
   rw[Lib.decDigits]
   split
   ·rename_i h
    intro e
    have:=congrArg UInt8.toNat e
    have h2:(UInt8.ofNat (48+u)).toNat=48+u:=by simp;omega
    simp only[List.headD_cons,h2] at this
    simp at this
    omega
   ·rename_i h
    have:=ih (u / 10) (by omega) (by omega)
    cases hd:Lib.decDigits (u / 10) with
    | nil=>exact absurd hd (dec_some _)
    | cons c r=>rw[hd] at this;exact this
 intro h
 refine key u ?_
 rcases Nat.eq_zero_or_pos u with rfl|hp
 ·rw[Lib.decDigits] at h;simp at h
 ·exact hp
def numTok(n:Int):Tok:=⟨2,⟨(Lib.itoa n).toArray⟩,n,0⟩
theorem num_lex{n:Int}(h0:0≤n)(h1:n≤9223372036854775807):Lx Brk (Lib.itoa n) [numTok n]:=by
 unfold numTok
 rw[itoa_dec h0]
 have hd:=dec_digit n.toNat
 have hn19:n.toNat<10 ^ (18+1):=Nat.lt_of_le_of_lt (show n.toNat≤9223372036854775807 by omega) (by decide)
 have hlen:=dec_digs n.toNat 18 hn19
 have hh:=dec_head n.toNat
 have hf:=num_dec n.toNat
 generalize hD:Lib.decDigits n.toNat=D at hd hlen hh hf
 cases D with
 | nil=>exact absurd hD (dec_some _)
 | cons c l =>
  have hw:∀d∈c::l,wordy d=true:=fun d hd'=>by
   have:=hd d hd'
   simp only[wordy,decide_eq_true_eq]
   omega
  have hc:=wordy_not_blank (hw c (by simp))
  refine Lx.tok (C:=Brk) (c:=c) (l:=l) hc.1 (Or.inl hc.2) fun s pre post hs hp=>?_
  have hbt:=byteAt_mid (i:=0) hs (by simp)
  simp only[Nat.add_zero,List.getElem_cons_zero] at hbt
  have hdc:=hd c (by simp)
  have hL:letterB (byteAt s pre.length)=false:=by rw[hbt];simp only[letterB,decide_eq_false_iff_not];omega
  have hG:digitB (byteAt s pre.length)=true:=by rw[hbt];simp only[digitB,decide_eq_true_eq];omega
  have hsz:pre.length+(c::l).length≤s.size:=by rw[←size_list,hs];simp only[List.length_append];omega
  have hW:digitEnd s pre.length=pre.length+(c::l).length:=digitEnd_run s _ _ hsz (fun j hj=>by
   rw[byteAt_mid hs hj]
   have:=hd _ (List.getElem_mem hj)
   simp only[digitB,decide_eq_true_eq]
   omega) (brk_byte hs hp).2
  have hE:s.extract pre.length (pre.length+(c::l).length)=⟨(c::l).toArray⟩:=extract_mid (t:=⟨(c::l).toArray⟩) (rest:=post) hs
  have hS:(ByteArray.mk (c::l).toArray).size=(c::l).length:=rfl
  have hN:numTo ⟨(c::l).toArray⟩ (c::l).length=n.toNat:=by rw[numTo_fold _ _ (Nat.le_refl _),List.take_length,hf]
  have hB0:byteAt ⟨(c::l).toArray⟩ 0=(c.toNat:Int):=by
   have:=byteAt_mid (s:=⟨(c::l).toArray⟩) (pre:=[]) (mid:=c::l) (rest:=[]) (by simp) (i:=0) (by simp)
   simpa using this
  have hO:numOk ⟨(c::l).toArray⟩=true:=by
   simp only[numOk,decide_eq_true_eq,hS,hN,hB0]
   refine⟨hlen,fun⟨g1,g2⟩=>?_,by omega⟩
   exact hh g1 (UInt8.toNat_inj.1 (by simp only[List.headD_cons,UInt8.reduceToNat];omega))
  rw[tokenOf,if_neg (by simp[hL]),if_pos hG,hW,hE,if_pos hO,numVal,if_pos hO,hS,hN]
  simp only[Prod.mk.injEq,Tok.mk.injEq,and_true,true_and]
  omega
theorem extract_list(s:ByteArray)(a b:Nat):(s.extract a b).data.toList=(s.data.toList.drop a).take (b-a):=by
 rw[ByteArray.data_extract,Array.toList_extract,List.extract_eq_take_drop]
theorem stands_prefix{s:ByteArray}{pre rest:List UInt8}(hs:s.data.toList=pre++rest)(t:ByteArray):standsD s pre.length t=t.data.toList.isPrefixOf rest:=by
 rw[Bool.eq_iff_iff,List.isPrefixOf_iff_prefix,standsD,decide_eq_true_eq,extract_list,hs,List.drop_left,Nat.add_sub_cancel_left]
 have hz:s.size=pre.length+rest.length:=by rw[←size_list,hs];simp
 have ht:=size_list t
 constructor
 ·rintro⟨h1,h2⟩
  exact⟨rest.drop t.size,by rw[←h2];exact List.take_append_drop _ _⟩
 ·rintro⟨r,rfl⟩
  refine⟨by simp only[List.length_append] at hz;omega,?_⟩
  rw[←ht]
  exact List.take_left
theorem sign_find{s:ByteArray}{pre rest:List UInt8}(hs:s.data.toList=pre++rest):signAt s pre.length signTexts=signTexts.find? fun t=>t.data.toList.isPrefixOf rest:=by
 rw[signAt_data]
 congr 1
 funext t
 exact stands_prefix hs t
theorem Lx.sign{C:List UInt8→Prop}{c:UInt8}{l:List UInt8}(hb:blankB (c.toNat:Int)=false)(hl:letterB (c.toNat:Int)=false)(hd:digitB (c.toNat:Int)=false)(hy:c≠45∨∀post,C post→NoHy (l++post))
  (hf:∀post,C post→(signTexts.find? fun t=>t.data.toList.isPrefixOf (c::l++post))=some ⟨(c::l).toArray⟩):Lx C (c::l) [⟨4,⟨(c::l).toArray⟩,0,0⟩]:=by
 refine Lx.tok hb hy fun s pre post hs hp=>?_
 have hbt:=byteAt_mid (i:=0) hs (by simp)
 simp only[Nat.add_zero,List.getElem_cons_zero] at hbt
 rw[tokenOf,hbt,if_neg (by rw[hl];decide),if_neg (by rw[hd];decide),sign_find hs,hf post hp]
 rfl
def sg(l:List UInt8):Tok:=⟨4,⟨l.toArray⟩,0,0⟩
def wd(l:List UInt8):Tok:=⟨3,⟨l.toArray⟩,0,0⟩
theorem lx_open:Lx Any [40] [sg [40]]:=Lx.sign (by decide) (by decide) (by decide) (Or.inl (by decide)) fun _ _=>rfl
theorem lx_shut:Lx Any [41] [sg [41]]:=Lx.sign (by decide) (by decide) (by decide) (Or.inl (by decide)) fun _ _=>rfl
theorem lx_semi:Lx Any [59] [sg [59]]:=Lx.sign (by decide) (by decide) (by decide) (Or.inl (by decide)) fun _ _=>rfl
theorem lx_comma:Lx Any [44] [sg [44]]:=Lx.sign (by decide) (by decide) (by decide) (Or.inl (by decide)) fun _ _=>rfl
theorem lx_minus:Lx NoHy [45] [sg [45]]:=Lx.sign (by decide) (by decide) (by decide) (Or.inr fun _ h=>h) fun _ _=>rfl
theorem lx_colon:Lx Bl [58] [sg [58]]:=Lx.sign (by decide) (by decide) (by decide) (Or.inl (by decide)) fun post h=>by obtain⟨t,rfl⟩:=h;rfl
theorem lx_slash:Lx Dig [47] [sg [47]]:=Lx.sign (by decide) (by decide) (by decide) (Or.inl (by decide)) fun post h=>by
 obtain⟨d,t,rfl,h1,h2⟩:=h
 have:((94:UInt8)==d)=false:=beq_false_of_ne fun e=>by subst e;exact absurd h2 (by decide)
 simp[signTexts,List.find?,List.isPrefixOf,this]
theorem lx_blank:Lx Any [32] []:=Lx.blank 32 (by decide)
theorem lx_line:Lx Any [10] []:=Lx.blank 10 (by decide)
theorem blank_brk(r:List UInt8):Brk (32::r):=fun c h=>by cases h;decide
theorem Lx.before{C:List UInt8→Prop}{l:List UInt8}{k:List Tok}(h:Lx C l k):Lx C (32::l) k:=Lx.app lx_blank h fun _ _=>trivial
theorem Lx.behind{C:List UInt8→Prop}{l:List UInt8}{k:List Tok}(h:Lx C l k)(hc:∀r,C (32::r)):Lx Any (l++[32]) k:=by
 have:=Lx.app h lx_blank fun post _=>hc post
 rwa[List.append_nil] at this
theorem lx_word(l:List UInt8)(c:UInt8)(r:List UInt8)(hl:l=c::r)(h1:l.length≤32)(h2:l.all wordy=true)(h3:57<c.toNat)(h4:wordB ⟨l.toArray⟩=true):Lx Brk l [wd l]:=by
 have:=Lx.word (nm:=⟨l.toArray⟩) (c:=c) (l:=r) (by simpa using hl) h1 (by simpa using h2) h3
 rw[h4] at this
 exact this
def signTok'(k:Int):Tok :=
 if k=7 then sg [43] else if k=8 then sg [45] else if k=9 then sg [42] else if k=10 then sg [47] else if k=11 then sg [37] else if k=12 then sg [61] else if k=13 then sg [60,62] else if k=14 then sg [60] else if k=15 then sg [60,61] else if k=16 then sg [62] else if k=17 then sg [62,61] else if k=18 then wd [97,110,100] else if k=19 then wd [111,114] else if k=21 then wd [102,98,121] else sg [58,58]
theorem lx_sign(l:List UInt8)(c:UInt8)(r:List UInt8)(hl:l=c::r)(hb:blankB (c.toNat:Int)=false)(h1:letterB (c.toNat:Int)=false)(h2:digitB (c.toNat:Int)=false)(hf:∀post,(signTexts.find? fun t=>t.data.toList.isPrefixOf (c::r++32::post))=some ⟨(c::r).toArray⟩)(hy:c≠45∨r=[]):Lx Any (32::(l++[32])) [sg l]:=by
 subst hl
 refine((Lx.sign (C:=Bl) hb h1 h2 (hy.imp id fun e post hp=>?_) fun post hp=>?_).behind fun r=>⟨r,rfl⟩).before
 ·obtain⟨t,rfl⟩:=hp
  subst e
  simp[NoHy]
 ·obtain⟨t,rfl⟩:=hp
  exact hf t
theorem lx_wordB(l:List UInt8)(c:UInt8)(r:List UInt8)(hl:l=c::r)(h1:l.length≤32)(h2:l.all wordy=true)(h3:57<c.toNat)(h4:wordB ⟨l.toArray⟩=true):Lx Any (32::(l++[32])) [wd l]:=((lx_word l c r hl h1 h2 h3 h4).behind blank_brk).before
theorem lx_between(k:Int):Lx Any (signOf k) [signTok' k]:=by
 have hi:∀(p:Prop) [Decidable p]{a b:List UInt8}{x y:Tok},Lx Any a [x]→Lx Any b [y]→Lx Any (if p then a else b) [if p then x else y]:=fun p _ a b x y ha hb=>by
  by_cases h:p
  ·rw[if_pos h,if_pos h];exact ha
  ·rw[if_neg h,if_neg h];exact hb
 unfold signOf signTok'
 refine hi _ (lx_sign [43] _ _ rfl (by decide) (by decide) (by decide) (fun _=>rfl) (Or.inl (by decide))) ?_
 refine hi _ (lx_sign [45] _ _ rfl (by decide) (by decide) (by decide) (fun _=>rfl) (Or.inr rfl)) ?_
 refine hi _ (lx_sign [42] _ _ rfl (by decide) (by decide) (by decide) (fun _=>rfl) (Or.inl (by decide))) ?_
 refine hi _ (lx_sign [47] _ _ rfl (by decide) (by decide) (by decide) (fun _=>rfl) (Or.inl (by decide))) ?_
 refine hi _ (lx_sign [37] _ _ rfl (by decide) (by decide) (by decide) (fun _=>rfl) (Or.inl (by decide))) ?_
 refine hi _ (lx_sign [61] _ _ rfl (by decide) (by decide) (by decide) (fun _=>rfl) (Or.inl (by decide))) ?_
 refine hi _ (lx_sign [60,62] _ _ rfl (by decide) (by decide) (by decide) (fun _=>rfl) (Or.inl (by decide))) ?_
 refine hi _ (lx_sign [60] _ _ rfl (by decide) (by decide) (by decide) (fun _=>rfl) (Or.inl (by decide))) ?_
 refine hi _ (lx_sign [60,61] _ _ rfl (by decide) (by decide) (by decide) (fun _=>rfl) (Or.inl (by decide))) ?_
 refine hi _ (lx_sign [62] _ _ rfl (by decide) (by decide) (by decide) (fun _=>rfl) (Or.inl (by decide))) ?_
 refine hi _ (lx_sign [62,61] _ _ rfl (by decide) (by decide) (by decide) (fun _=>rfl) (Or.inl (by decide))) ?_
 refine hi _ (lx_wordB [97,110,100] _ _ rfl (by decide) (by decide) (by decide) (by decide)) ?_
 refine hi _ (lx_wordB [111,114] _ _ rfl (by decide) (by decide) (by decide) (by decide)) ?_
 refine hi _ (lx_wordB [102,98,121] _ _ rfl (by decide) (by decide) (by decide) (by decide)) ?_
 exact lx_sign [58,58] _ _ rfl (by decide) (by decide) (by decide) (fun _=>rfl) (Or.inl (by decide))
theorem lx_up:Lx Any [32,42,94,32] [sg [42,94]]:=lx_sign [42,94] _ _ rfl (by decide) (by decide) (by decide) (fun _=>rfl) (Or.inl (by decide))
theorem lx_down:Lx Any [32,47,94,32] [sg [47,94]]:=lx_sign [47,94] _ _ rfl (by decide) (by decide) (by decide) (fun _=>rfl) (Or.inl (by decide))
theorem lx_late:Lx Any [32,126,62,32] [sg [126,62]]:=lx_sign [126,62] _ _ rfl (by decide) (by decide) (by decide) (fun _=>rfl) (Or.inl (by decide))
theorem lex_back{l:List UInt8}{k:List Tok}(h:Lx Brk l k){s:ByteArray}(hs:s.data.toList=l)(he:(lexOf s).2.2=0):∃ts,ts.map bt=k∧lexOf s=(ts++[⟨0,⟨#[]⟩,0,s.size⟩],0,0)∧k.length<16384:=by
 have H:=h s [] [] [] (by simpa using hs) (fun c hc=>by cases hc)
 have hz:¬65536<s.size:=fun g=>by rw[lex_long g] at he;exact absurd he (by decide)
 unfold lexOf at he ⊢
 rw[if_neg hz] at he ⊢
 have hk:k.length<16384:=by
  rcases Nat.lt_or_ge k.length 16384 with g|g
  ·exact g
  ·exact absurd he (H.2 (by decide) (by simpa using g))
 obtain⟨ts,e,g⟩:=H.1 (by simpa using hk)
 have hl:l.length=s.size:=by rw[←hs];exact size_list s
 simp only[List.length_nil,Nat.zero_add,List.nil_append,hl] at g
 refine⟨ts,e,?_,hk⟩
 rw[g,afterTo_end (by omega),scan_end (by omega)]
open Ex.size Ex.depth Ex.shape Ex.text Ex.good
theorem shape_sub{kd pl it dn:Int}{nm:ByteArray}{a:Option Addr}{c:Nat}{l:List Ex}(h:Ex.shape (.mk kd pl nm it dn a c l)=true){x:Ex}(hx:x∈l):x.shape=true:=by
 obtain⟨i,hi,rfl⟩:=List.getElem_of_mem hx
 simp only[Ex.shape,Bool.and_eq_true] at h
 cases hq:(l[i]).shape
 ·have:=shapes_false l i hi hq
  rw[this] at h
  exact absurd h.2 (by decide)
 ·rfl
theorem Ex.byKind{P:Ex→Prop}
  (hvar:∀pl nm a c,nameB nm=true→P (.mk 1 pl nm 0 0 a c []))
  (hint:∀pl it a c,0≤it→P (.mk 2 pl ⟨#[]⟩ it 0 a c []))
  (hbool:∀pl it a c,it=0∨it=1→P (.mk 3 pl ⟨#[]⟩ it 0 a c []))
  (hcall:∀pl nm a c l,nameB nm=true→l≠[]→(∀x∈l,x.shape=true∧P x)→P (.mk 4 pl nm 0 0 a c l))
  (hone:∀kd pl a c x,kd=5∨kd=6∨kd=23→x.shape=true→P x→P (.mk kd pl ⟨#[]⟩ 0 0 a c [x]))
  (hup:∀kd pl it a c x,kd=24∨kd=25→1≤it→x.shape=true→P x→P (.mk kd pl ⟨#[]⟩ it 0 a c [x]))
  (hlate:∀pl it dn a c x,0≤it→1≤dn→x.shape=true→P x→P (.mk 26 pl ⟨#[]⟩ it dn a c [x]))
  (hif:∀pl a c x y z,x.shape=true→y.shape=true→z.shape=true→P x→P y→P z→P (.mk 20 pl ⟨#[]⟩ 0 0 a c [x,y,z]))
  (htwo:∀kd pl a c x y,isTwo kd→x.shape=true→y.shape=true→P x→P y→P (.mk kd pl ⟨#[]⟩ 0 0 a c [x,y])) :
  ∀e:Ex,e.shape=true→P e:=by
 suffices H:∀m,∀e:Ex,e.size≤m→e.shape=true→P e from fun e h=>H _ e (Nat.le_refl _) h
 intro m
 induction m with
 | zero=>intro e h;have:=size_pos e;omega
 | succ m ih =>
  rintro⟨kd,pl,nm,it,dn,a,cap,l⟩ hm h
  have hsub:∀x∈l,x.shape=true∧P x:=fun x hx=>by
   have h2:=shape_sub h hx
   obtain⟨i,hi,rfl⟩:=List.getElem_of_mem hx
   have h1:=size_arg hi
   simp only[Ex.size] at hm
   exact⟨h2,ih _ (by omega) h2⟩
  simp only[Ex.shape,Bool.and_eq_true] at h
  obtain⟨⟨⟨⟨ha,hnm⟩,hit⟩,hdn⟩,-⟩:=h
  obtain⟨r1,r2⟩:=args_range ha
  simp only[argsOkB,decide_eq_true_eq] at ha
  by_cases k4:kd=4
  ·subst k4
   have i0:it=0:=by simpa [intOkB] using hit
   have d0:dn=0:=by simpa [denOkB] using hdn
   subst i0 d0
   refine hcall _ _ _ _ _ (by simpa [nameOkB] using hnm) (fun h=>?_) hsub
   subst h
   simp[argsOf] at ha
  by_cases k1:kd=1
  ·subst k1
   have i0:it=0:=by simpa [intOkB] using hit
   have d0:dn=0:=by simpa [denOkB] using hdn
   have hl:l=[]:=List.length_eq_zero_iff.1 (by simp[argsOf] at ha;omega)
   subst i0 d0 hl
   exact hvar _ _ _ _ (by simpa [nameOkB] using hnm)
  obtain rfl:nm=⟨#[]⟩:=no_name (by simpa [nameOkB,k1,k4] using hnm)
  have two:∀{l:List Ex},l.length=2→∃x y,l=[x,y]:=fun {l} h=>by
   match l,h with
   | [x,y],_=>exact⟨x,y,rfl⟩
  have lone:∀{l:List Ex},l.length=1→∃x,l=[x]:=fun {l} h=>by
   match l,h with
   | [x],_=>exact⟨x,rfl⟩
  by_cases k2:kd=2
  ·subst k2
   have d0:dn=0:=by simpa [denOkB] using hdn
   have hl:l=[]:=List.length_eq_zero_iff.1 (by simp[argsOf] at ha;omega)
   subst d0 hl
   exact hint _ _ _ _ (by simpa [intOkB] using hit)
  by_cases k3:kd=3
  ·subst k3
   have d0:dn=0:=by simpa [denOkB] using hdn
   have hl:l=[]:=List.length_eq_zero_iff.1 (by simp[argsOf] at ha;omega)
   subst d0 hl
   exact hbool _ _ _ _ (by simpa [intOkB] using hit)
  by_cases k26:kd=26
  ·subst k26
   obtain⟨x,rfl⟩:=lone (l:=l) (by simp[argsOf] at ha;omega)
   obtain⟨sx,hx⟩:=hsub x (by simp)
   exact hlate _ _ _ _ _ _ (by simpa [intOkB] using hit) (by simpa [denOkB] using hdn) sx hx
  have d0:dn=0:=by simpa [denOkB,k26] using hdn
  subst d0
  by_cases k25:kd=24∨kd=25
  ·obtain⟨x,rfl⟩:=lone (l:=l) (by rcases k25 with rfl|rfl<;>simp[argsOf] at ha<;>omega)
   obtain⟨sx,hx⟩:=hsub x (by simp)
   exact hup _ _ _ _ _ _ k25 (by simpa [intOkB,k25,k2,k3,k26] using hit) sx hx
  have i0:it=0:=by simpa [intOkB,k25,k2,k3,k26] using hit
  subst i0
  by_cases k5:kd=5∨kd=6∨kd=23
  ·obtain⟨x,rfl⟩:=lone (l:=l) (by rcases k5 with rfl|rfl|rfl<;>simp[argsOf] at ha<;>omega)
   obtain⟨sx,hx⟩:=hsub x (by simp)
   exact hone _ _ _ _ _ k5 sx hx
  by_cases k20:kd=20
  ·subst k20
   obtain⟨x,y,z,rfl⟩:∃x y z,l=[x,y,z]:=by
    have h3:l.length=3:=by simp[argsOf] at ha;omega
    match l,h3 with
    | [x,y,z],_=>exact⟨x,y,z,rfl⟩
   obtain⟨sx,hx⟩:=hsub x (by simp)
   obtain⟨sy,hy⟩:=hsub y (by simp)
   obtain⟨sz,hz⟩:=hsub z (by simp)
   exact hif _ _ _ _ _ _ sx sy sz hx hy hz
  have hk:isTwo kd:=by unfold isTwo;omega
  have h2:argsOf kd=2:=by unfold isTwo at hk;unfold argsOf;rw[if_neg (by omega),if_neg (by omega),if_neg (by omega),if_pos hk]
  obtain⟨x,y,rfl⟩:=two (l:=l) (by rw[h2] at ha;omega)
  obtain⟨sx,hx⟩:=hsub x (by simp)
  obtain⟨sy,hy⟩:=hsub y (by simp)
  exact htwo _ _ _ _ _ _ hk sx sy hx hy
def nmTok(nm:ByteArray):Tok:=⟨1,nm,0,0⟩
def boolTok(it:Int):Tok:=if it=0 then wd [102,97,108,115,101] else wd [116,114,117,101]
def parT(n:Int)(x:Int × List Tok):List Tok:=if strong x.1<n then sg [40]::(x.2++[sg [41]]) else x.2
def restsT(sep:Tok):List (List Tok)→List Tok
 | []=>[]
 | x::r=>sep::(x++restsT sep r)
def betweenT(sep:Tok):List (List Tok)→List Tok
 | []=>[]
 | x::r=>x++restsT sep r
def toksBy(kd:Int)(nm:ByteArray)(it dn:Int)(a:List (Int × List Tok)):List Tok :=
 if kd=1 then [nmTok nm]
 else if kd=2 then [numTok it]
 else if kd=3 then [boolTok it]
 else if kd=4 then nmTok nm::sg [40]::(betweenT (sg [44]) (a.map (·.2))++[sg [41]])
 else if kd=5 then sg [45]::parT 8 (a.getD 0 (0,[]))
 else if kd=23 then wd [116,97,105,108]::parT 8 (a.getD 0 (0,[]))
 else if kd=6 then wd [110,111,116]::parT 4 (a.getD 0 (0,[]))
 else if kd=20 then wd [105,102]::((a.getD 0 (0,[])).2++wd [116,104,101,110]::((a.getD 1 (0,[])).2++wd [101,108,115,101]::(a.getD 2 (0,[])).2))
 else if kd=24 then parT 9 (a.getD 0 (0,[]))++[sg [42,94],numTok it]
 else if kd=25 then parT 9 (a.getD 0 (0,[]))++[sg [47,94],numTok it]
 else if kd=26 then parT 9 (a.getD 0 (0,[]))++[sg [126,62],numTok it,sg [47],numTok dn]
 else parT (firstOf kd) (a.getD 0 (0,[]))++signTok' kd::parT (secondOf kd) (a.getD 1 (0,[]))
def Ex.toks:Ex→List Tok
 | .mk kd _ nm it dn _ _ l=>toksBy kd nm it dn (tokss l)
where tokss:List Ex→List (Int × List Tok)
 | []=>[]
 | e::r=>(e.kd,e.toks)::tokss r
open Ex.toks
theorem tokss_map(l:List Ex):(tokss l).map (·.2)=l.map Ex.toks:=by
 induction l with
 | nil=>rfl
 | cons e r ih=>simp only[tokss,List.map_cons,ih]
theorem toks_4(pl it dn:Int)(nm:ByteArray)(a:Option Addr)(cap:Nat)(l:List Ex):Ex.toks (.mk 4 pl nm it dn a cap l)=nmTok nm::sg [40]::(betweenT (sg [44]) (l.map Ex.toks)++[sg [41]]):=by rw[←tokss_map];rfl
theorem two_toks{kd pl it dn:Int}{nm:ByteArray}{a:Option Addr}{cap:Nat}{x y:Ex}(hk:isTwo kd):Ex.toks (.mk kd pl nm it dn a cap [x,y])=parT (firstOf kd) (x.kd,x.toks)++signTok' kd::parT (secondOf kd) (y.kd,y.toks):=by
 unfold isTwo at hk
 rw[Ex.toks,toksBy,if_neg (by omega),if_neg (by omega),if_neg (by omega),if_neg (by omega),if_neg (by omega),if_neg (by omega),if_neg (by omega),if_neg (by omega),if_neg (by omega),if_neg (by omega),if_neg (by omega)]
 rfl
theorem brk_c{c:UInt8}(r:List UInt8)(h:wordy c=false):Brk (c::r):=fun d hd=>by cases hd;exact h
theorem par_lex{k:Int}{x:Ex}(h:Lx Brk x.text x.toks):Lx Brk (par k (x.kd,x.text)) (parT k (x.kd,x.toks)):=by
 unfold par parT
 by_cases hk:strong x.kd<k
 ·rw[if_pos hk,if_pos hk]
  exact(Lx.app lx_open (Lx.app h lx_shut fun post _=>brk_c _ (by decide)) fun _ _=>trivial).mono fun _ _=>trivial
 ·rw[if_neg hk,if_neg hk]
  exact h
theorem rests_lex(sep:List UInt8)(t:Tok)(d:UInt8)(sr:List UInt8)(hsep:sep=d::sr)(hd:wordy d=false)(hs:Lx Any sep [t]){α:Type}(f:α→List UInt8)(g:α→List Tok)(l:List α)(h:∀x∈l,Lx Brk (f x) (g x)):Lx Brk (rests sep (l.map f)) (restsT t (l.map g)):=by
 induction l with
 | nil=>exact Lx.nil _
 | cons x r ih =>
  have h1:=ih fun y hy=>h y (List.mem_cons_of_mem _ hy)
  have h2:Lx Brk (f x++rests sep (r.map f)) (g x++restsT t (r.map g)):=Lx.app (h x (List.mem_cons_self ..)) h1 fun post hp=>by
   cases r with
   | nil=>exact hp
   | cons y r=>subst hsep;exact brk_c _ hd
  have h3:=Lx.app hs h2 fun _ _=>trivial
  simp only[List.map_cons,rests,restsT,List.append_assoc]
  exact h3
theorem between_lex(sep:List UInt8)(t:Tok)(d:UInt8)(sr:List UInt8)(hsep:sep=d::sr)(hd:wordy d=false)(hs:Lx Any sep [t]){α:Type}(f:α→List UInt8)(g:α→List Tok)(l:List α)(h:∀x∈l,Lx Brk (f x) (g x)):Lx Brk (between sep (l.map f)) (betweenT t (l.map g)):=by
 cases l with
 | nil=>exact Lx.nil _
 | cons x r =>
  refine Lx.app (h x (List.mem_cons_self ..)) (rests_lex sep t d sr hsep hd hs f g r fun y hy=>h y (List.mem_cons_of_mem _ hy)) fun post hp=>?_
  cases r with
  | nil=>exact hp
  | cons y r=>subst hsep;exact brk_c _ hd
theorem lx_commaB:Lx Any [44,32] [sg [44]]:=Lx.app lx_comma lx_blank fun _ _=>trivial
theorem lx_kw(l:List UInt8)(c:UInt8)(r:List UInt8)(hl:l=c::r)(h1:l.length≤32)(h2:l.all wordy=true)(h3:57<c.toNat)(h4:wordB ⟨l.toArray⟩=true):Lx Any (l++[32]) [wd l]:=(lx_word l c r hl h1 h2 h3 h4).behind blank_brk
def NoHyp(s:List UInt8):Prop:=∃c t,s=c::t∧c≠45
theorem NoHyp.app{s:List UInt8}(h:NoHyp s)(r:List UInt8):NoHyp (s++r):=by
 obtain⟨c,t,rfl,h⟩:=h
 exact⟨c,t++r,rfl,h⟩
theorem NoHyp.no{s:List UInt8}(h:NoHyp s):NoHy s:=by
 obtain⟨c,t,rfl,h⟩:=h
 intro e
 exact h (Option.some.inj e)
theorem NoHyp.wordy{s:List UInt8}(h0:s≠[])(h:∀c∈s,wordy c=true):NoHyp s:=by
 cases s with
 | nil=>exact absurd rfl h0
 | cons c t=>exact⟨c,t,rfl,(wordy_not_blank (h c (List.mem_cons_self ..))).2⟩
theorem NoHyp.par{k:Int}{x:Ex}(h:¬strong x.kd<k→NoHyp x.text):NoHyp (par k (x.kd,x.text)):=by
 unfold Go.Proofs.YthbgnpkgglbhjaaGreatDoor.par
 by_cases hk:strong x.kd<k
 ·rw[if_pos hk];exact⟨40,_,rfl,by decide⟩
 ·rw[if_neg hk];exact h hk
theorem strong_5:strong 5=8:=by decide
theorem text_nohyp:∀e:Ex,e.shape=true→(8≤strong e.kd→e.kd≠5→NoHyp e.text):=by
 refine Ex.byKind (P:=fun e=>8≤strong e.kd→e.kd≠5→NoHyp e.text) ?_ ?_ ?_ ?_ ?_ ?_ ?_ ?_ ?_
 ·intro pl nm a c hn _ _
  obtain⟨h1,h2,-⟩:=name_bytes hn
  exact NoHyp.wordy h1 h2
 ·intro pl it a c hi _ _
  exact NoHyp.wordy (itoa_some hi) (itoa_wordy hi)
 ·intro pl it a c hi _ _
  rw[text_3]
  split
  ·exact⟨_,_,rfl,by decide⟩
  ·exact⟨_,_,rfl,by decide⟩
 ·intro pl nm a c l hn _ _ _ _
  obtain⟨h1,h2,-⟩:=name_bytes hn
  rw[text_4,List.append_assoc,List.append_assoc]
  exact(NoHyp.wordy h1 h2).app _
 ·rintro kd pl a c x (rfl|rfl|rfl) sx hx h1 h2
  ·exact absurd rfl h2
  ·exact absurd (show 8≤strong 6 from h1) (by decide)
  ·exact⟨116,_,rfl,by decide⟩
 ·intro kd pl it a c x hk hi sx hx _ _
  have hp:NoHyp (par 9 (x.kd,x.text)):=NoHyp.par fun h=>hx (by omega) fun e=>by rw[e,strong_5] at h;omega
  rcases hk with rfl|rfl
  ·exact(hp.app [32,42,94,32]).app _
  ·exact(hp.app [32,47,94,32]).app _
 ·intro pl it dn a c x hi hd sx hx _ _
  have hp:NoHyp (par 9 (x.kd,x.text)):=NoHyp.par fun h=>hx (by omega) fun e=>by rw[e,strong_5] at h;omega
  exact(((hp.app [32,126,62,32]).app _).app _).app _
 ·intro pl a c x y z _ _ _ _ _ _ h1 _
  exact absurd (show 8≤strong 20 from h1) (by decide)
 ·intro kd pl a c x y hk _ _ _ _ h1 _
  exfalso
  simp only at h1
  unfold isTwo at hk
  unfold strong at h1
  repeat' split at h1
  all_goals omega
theorem text_lex:∀e:Ex,e.shape=true→(e.good→Lx Brk e.text e.toks):=by
 refine Ex.byKind (P:=fun e=>e.good→Lx Brk e.text e.toks) ?_ ?_ ?_ ?_ ?_ ?_ ?_ ?_ ?_
 ·intro pl nm a c hn _
  exact name_lex hn
 ·intro pl it a c hi hg
  exact num_lex hi (by have:=bounds_i64 hg.1.2.2.2.1;omega)
 ·intro pl it a c hi _
  rw[text_3]
  show Lx Brk _ [boolTok it]
  unfold boolTok
  by_cases h:it=0
  ·rw[if_pos h,if_pos h];exact lx_word [102,97,108,115,101] _ _ rfl (by decide) (by decide) (by decide) (by decide)
  ·rw[if_neg h,if_neg h];exact lx_word [116,114,117,101] _ _ rfl (by decide) (by decide) (by decide) (by decide)
 ·intro pl nm a c l hn _ hl hg
  have hgl:∀x∈l,x.good:=fun x hx=>by
   obtain⟨i,hi,rfl⟩:=List.getElem_of_mem hx
   exact goods_get hg.2 hi
  rw[text_4,toks_4]
  have hb:=between_lex [44,32] (sg [44]) 44 [32] rfl (by decide) lx_commaB Ex.text Ex.toks l fun x hx=>(hl x hx).2 (hgl x hx)
  have h1:=Lx.app (Lx.app (Lx.app (name_lex hn) lx_open fun post _=>brk_c _ (by decide)) hb fun _ _=>trivial) lx_shut fun post _=>brk_c _ (by decide)
  simp only[List.append_assoc,List.cons_append,List.nil_append] at h1 ⊢
  exact h1.mono fun _ _=>trivial
 ·intro kd pl a c x hk sx hx hg
  have hX:=hx hg.2.1
  rcases hk with rfl|rfl|rfl
  ·rw[text_5]
   show Lx Brk _ (sg [45]::parT 8 (x.kd,x.toks))
   by_cases h5:x.kd=5
   ·rw[if_pos h5]
    have h1:=Lx.app (Lx.app lx_minus lx_blank fun post _=>by simp[NoHy]) (par_lex (k:=8) hX) fun _ _=>trivial
    exact h1
   ·rw[if_neg h5]
    have h1:=Lx.app lx_minus (par_lex (k:=8) hX) fun post _=>((NoHyp.par fun h=>text_nohyp x sx (by omega) h5).app post).no
    exact h1
  ·exact Lx.app (lx_kw [110,111,116] _ _ rfl (by decide) (by decide) (by decide) (by decide)) (par_lex (k:=4) hX) fun _ _=>trivial
  ·exact Lx.app (lx_kw [116,97,105,108] _ _ rfl (by decide) (by decide) (by decide) (by decide)) (par_lex (k:=8) hX) fun _ _=>trivial
 ·intro kd pl it a c x hk hi sx hx hg
  have hX:=par_lex (k:=9) (hx hg.2.1)
  have hN:=num_lex (n:=it) (by omega) (by have:=bounds_i64 hg.1.2.2.2.1;omega)
  rcases hk with rfl|rfl
  ·have h1:=Lx.app (Lx.app hX lx_up fun post _=>blank_brk _) hN fun _ _=>trivial
   rw[List.append_assoc (parT 9 _)] at h1
   exact h1
  ·have h1:=Lx.app (Lx.app hX lx_down fun post _=>blank_brk _) hN fun _ _=>trivial
   rw[List.append_assoc (parT 9 _)] at h1
   exact h1
 ·intro pl it dn a c x hi hd sx hx hg
  have hX:=par_lex (k:=9) (hx hg.2.1)
  have hN:=num_lex (n:=it) hi (by have:=bounds_i64 hg.1.2.2.2.1;omega)
  have hD:=num_lex (n:=dn) (by omega) (by have:=bounds_i64 hg.1.2.2.2.2.1;omega)
  have hdig:∀post,Dig (Lib.itoa dn++post):=fun post=>by
   have h1:=itoa_dec (n:=dn) (by omega)
   have h2:=dec_digit dn.toNat
   have h3:=dec_some dn.toNat
   rw[h1]
   cases hq:Lib.decDigits dn.toNat with
   | nil=>exact absurd hq h3
   | cons c t=>exact⟨c,t++post,rfl,h2 c (by rw[hq];exact List.mem_cons_self ..)⟩
  have h1:=Lx.app (Lx.app (Lx.app (Lx.app hX lx_late fun post _=>blank_brk _) hN fun _ _=>trivial) lx_slash fun post _=>brk_c _ (by decide)) hD fun post _=>hdig post
  rw[List.append_assoc (parT 9 _++_++_),List.append_assoc (parT 9 _++_),List.append_assoc (parT 9 _)] at h1
  exact h1
 ·intro pl a c x y z sx sy sz hx hy hz hg
  have hX:=hx hg.2.1
  have hY:=hy hg.2.2.1
  have hZ:=hz hg.2.2.2.1
  have k1:Lx Any ([105,102]++[32]) [wd [105,102]]:=lx_kw [105,102] _ _ rfl (by decide) (by decide) (by decide) (by decide)
  have k2:Lx Any [32,116,104,101,110,32] [wd [116,104,101,110]]:=lx_wordB [116,104,101,110] _ _ rfl (by decide) (by decide) (by decide) (by decide)
  have k3:Lx Any [32,101,108,115,101,32] [wd [101,108,115,101]]:=lx_wordB [101,108,115,101] _ _ rfl (by decide) (by decide) (by decide) (by decide)
  have h1:=Lx.app (Lx.app (Lx.app (Lx.app (Lx.app k1 hX fun _ _=>trivial) k2 fun post _=>blank_brk _) hY fun _ _=>trivial) k3 fun post _=>blank_brk _) hZ fun _ _=>trivial
  have e1:Ex.toks (.mk 20 pl ⟨#[]⟩ 0 0 a c [x,y,z])=wd [105,102]::(x.toks++wd [116,104,101,110]::(y.toks++wd [101,108,115,101]::z.toks)):=rfl
  rw[e1]
  simp only[List.append_assoc,List.cons_append,List.nil_append] at h1
  have e2:Ex.text (.mk 20 pl ⟨#[]⟩ 0 0 a c [x,y,z])=[105,102,32]++x.text++[32,116,104,101,110,32]++y.text++[32,101,108,115,101,32]++z.text:=rfl
  rw[e2]
  simp only[List.append_assoc,List.cons_append,List.nil_append]
  exact h1
 ·intro kd pl a c x y hk sx sy hx hy hg
  have hX:=par_lex (k:=firstOf kd) (hx hg.2.1)
  have hY:=par_lex (k:=secondOf kd) (hy hg.2.2.1)
  rw[two_text hk,two_toks hk]
  have h1:=Lx.app (Lx.app hX (lx_between kd) fun post _=>by
   obtain⟨t,ht⟩:=sign_first kd
   rw[ht]
   exact blank_brk _) hY fun _ _=>trivial
  rw[List.append_assoc (parT _ _)] at h1
  exact h1
end Go.Proofs.YthbgnpkgglbhjaaGreatDoor
namespace Go.Proofs.YthbgnpkgglbhjaaGreatDoor
open Ex.size Ex.depth Ex.shape
def Pm.nop(p:Pm):Pm:=⟨p.nm,p.ty,0,p.rt,p.pd,p.st,p.du⟩
def Eqn.nop(q:Eqn):Eqn:=⟨none,0,q.ns,0,q.e.nop⟩
def Nd.nop(n:Nd):Nd:=⟨n.fl,n.nm,0,none,0,n.ins.map Pm.nop,none,0,n.outs.map Pm.nop,none,0,n.vars.map Pm.nop,none,0,n.eqs.map Eqn.nop⟩
theorem nops_map(l:List Ex):Ex.nop.nops l=l.map Ex.nop:=by
 induction l with
 | nil=>rfl
 | cons e r ih=>simp only[Ex.nop.nops,ih,List.map_cons]
theorem nop_mk(kd pl:Int)(nm:ByteArray)(it dn:Int)(a:Option Addr)(c:Nat)(l:List Ex):Ex.nop (.mk kd pl nm it dn a c l)=.mk kd 0 nm it dn none 0 (l.map Ex.nop):=by
 rw[Ex.nop,nops_map]
theorem nop_pl(e:Ex):e.nop.pl=0:=by cases e;rfl
def nopR{α:Type}(g:α→α):PR α→PR α
 | .error (_,e)=>.error (0,e)
 | .ok (a,ts)=>.ok (g a,ts.map bt)
theorem then_bt{α β:Type}{p p':PR α}{f f':α→List Tok→PR β}{g:α→α}{g2:β→β}(h:p'=nopR g p)(hf:∀a t,f' (g a) (t.map bt)=nopR g2 (f a t)):p'.then f'=nopR g2 (p.then f):=by
 subst h
 cases p with
 | error e=>rfl
 | ok r=>exact hf r.1 r.2
theorem hd_bt(ts:List Tok):hd (ts.map bt)=bt (hd ts):=by
 cases ts<;>rfl
theorem tail_bt(ts:List Tok):(ts.map bt).tail=ts.tail.map bt:=by
 cases ts<;>rfl
theorem ite_bt{α:Type}{g:α→α}{c c':Prop} [Decidable c] [Decidable c']{a a' b b':PR α}(hc:c'↔c)(ha:c→a'=nopR g a)(hb:¬c→b'=nopR g b):(if c' then a' else b')=nopR g (if c then a else b):=by
 by_cases h:c
 ·rw[if_pos h,if_pos (hc.2 h),ha h]
 ·rw[if_neg h,if_neg (fun k=>h (hc.1 k)),hb h]
theorem sgn_bt(rule:Int)(ts:List Tok):sgn rule (ts.map bt)=sgn rule ts:=by
 unfold sgn
 rw[hd_bt]
 rfl
theorem want_bt(s:ByteArray)(ts:List Tok):wantT s (ts.map bt)=nopR id (wantT s ts):=by
 unfold wantT
 rw[hd_bt,tail_bt]
 exact ite_bt Iff.rfl (fun _=>rfl) fun _=>rfl
theorem num_bt(l:Int)(ts:List Tok):numT l (ts.map bt)=nopR id (numT l ts):=by
 unfold numT
 rw[hd_bt,tail_bt]
 exact ite_bt Iff.rfl (fun _=>rfl) fun _=>rfl
theorem name_bt(ts:List Tok):nameT (ts.map bt)=nopR id (nameT ts):=by
 unfold nameT
 rw[hd_bt,tail_bt]
 exact ite_bt Iff.rfl (fun _=>rfl) fun _=>rfl
theorem open_bt{α:Type}{g:α→α}{op:Nat}{ts:List Tok}{f f':List Tok→PR α}(hf:∀t,f' (t.map bt)=nopR g (f t)):openT op (ts.map bt) f'=nopR g (openT op ts f):=by
 unfold openT
 rw[hd_bt,tail_bt]
 exact ite_bt Iff.rfl (fun _=>rfl) fun _=>hf _
theorem mk2_bt(k:Int)(a b:Ex):mk2 k a.nop b.nop=(mk2 k a b).nop:=by
 unfold mk2
 rw[nop_mk,nop_pl]
 rfl
theorem mk1_bt(k pl it dn:Int)(a:Ex):mk1 k 0 a.nop it dn=(mk1 k pl a it dn).nop:=by
 unfold mk1
 rw[nop_mk]
 rfl
theorem chain_bt{part part':List Tok→PR Ex}(hp:∀ts,part' (ts.map bt)=nopR Ex.nop (part ts))(rule:Int):∀n e ts,chainL part' rule n e.nop (ts.map bt)=nopR Ex.nop (chainL part rule n e ts)
 | 0,_,_=>rfl
 | n+1,e,ts=>by
  unfold chainL
  rw[sgn_bt,tail_bt]
  cases sgn rule ts with
  | none=>rfl
  | some k=>exact then_bt (hp _) fun e2 t2=>by rw[mk2_bt];exact chain_bt hp rule n _ t2
theorem late_bt(ts:List Tok):lateT (ts.map bt)=nopR id (lateT ts):=by
 unfold lateT
 refine then_bt (num_bt 0 ts) fun a t1=>?_
 rw[hd_bt,tail_bt]
 exact ite_bt Iff.rfl (fun _=>then_bt (num_bt 1 _) fun b t2=>rfl) fun _=>rfl
theorem post_bt:∀n e ts,postL n e.nop (ts.map bt)=nopR Ex.nop (postL n e ts)
 | 0,_,_=>rfl
 | n+1,e,ts=>by
  unfold postL
  rw[sgn_bt,tail_bt]
  cases sgn 6 ts with
  | none=>rfl
  | some k =>
   refine ite_bt Iff.rfl (fun _=>then_bt (late_bt _) fun x t1=>?_) fun _=>then_bt (num_bt 1 _) fun a t1=>?_
   ·rw[nop_pl,mk1_bt k e.pl]
    exact post_bt n _ t1
   ·rw[nop_pl,mk1_bt k e.pl]
    exact post_bt n _ t1
theorem listL_bt{α:Type}{g:α→α}{part part':List Tok→PR α}(hp:∀ts,part' (ts.map bt)=nopR g (part ts))(s:ByteArray):∀n l ts,listL part' s n (l.map g) (ts.map bt)=nopR (List.map g) (listL part s n l ts)
 | 0,_,_=>rfl
 | n+1,l,ts=>by
  unfold listL
  rw[hd_bt,tail_bt]
  refine ite_bt Iff.rfl (fun _=>then_bt (hp _) fun e t1=>?_) fun _=>rfl
  have:=listL_bt hp s n (l++[e]) t1
  rwa[List.map_append] at this
theorem list_bt{α:Type}{g:α→α}{part part':List Tok→PR α}(hp:∀ts,part' (ts.map bt)=nopR g (part ts))(s:ByteArray)(n:Nat)(ts:List Tok):listT part' s n (ts.map bt)=nopR (List.map g) (listT part s n ts):=by
 unfold listT
 exact then_bt (hp ts) fun e t1=>listL_bt hp s n [e] t1
theorem pp_bt:∀n r op ts,pp n r op (ts.map bt)=nopR Ex.nop (pp n r op ts)
 | 0,_,_,_=>rfl
 | n+1,r,op,ts=>by
  have ih:=pp_bt n
  unfold pp
  rw[hd_bt,tail_bt,hd_bt]
  refine ite_bt Iff.rfl (fun _=>ite_bt Iff.rfl (fun _=>?_) fun _=>ih 1 op ts) fun _=>?_
  ·exact open_bt fun t1=>then_bt (ih 0 _ t1) fun a t2=>then_bt (want_bt _ t2) fun _ t3=>then_bt (ih 0 _ t3) fun b t4=>then_bt (want_bt _ t4) fun _ t5=>then_bt (ih 0 _ t5) fun c t6=>by
    show Except.ok _=Except.ok _
    rw[nop_mk]
    rfl
  refine ite_bt Iff.rfl (fun _=>then_bt (ih 2 op ts) fun a t1=>?_) fun _=>?_
  ·rw[sgn_bt]
   cases sgn 0 t1 with
   | none=>rfl
   | some k=>exact open_bt fun t2=>then_bt (ih 1 _ t2) fun b t3=>by rw[mk2_bt];rfl
  refine ite_bt Iff.rfl (fun _=>then_bt (ih 3 op ts) fun a t1=>chain_bt (ih 3 op) 1 n a t1) fun _=>?_
  refine ite_bt Iff.rfl (fun _=>then_bt (ih 4 op ts) fun a t1=>chain_bt (ih 4 op) 2 n a t1) fun _=>?_
  refine ite_bt Iff.rfl (fun _=>ite_bt Iff.rfl (fun _=>open_bt fun t1=>then_bt (ih 4 _ t1) fun a t2=>?_) fun _=>ih 5 op ts) fun _=>?_
  ·show Except.ok _=Except.ok _
   rw[←mk1_bt]
   rfl
  refine ite_bt Iff.rfl (fun _=>then_bt (ih 6 op ts) fun a t1=>?_) fun _=>?_
  ·rw[sgn_bt,tail_bt]
   cases sgn 3 t1 with
   | none=>rfl
   | some k=>exact then_bt (ih 6 op _) fun b t2=>by rw[mk2_bt];rfl
  refine ite_bt Iff.rfl (fun _=>then_bt (ih 7 op ts) fun a t1=>chain_bt (ih 7 op) 4 n a t1) fun _=>?_
  refine ite_bt Iff.rfl (fun _=>then_bt (ih 8 op ts) fun a t1=>chain_bt (ih 8 op) 5 n a t1) fun _=>?_
  refine ite_bt Iff.rfl (fun _=>ite_bt Iff.rfl (fun _=>open_bt fun t1=>then_bt (ih 8 _ t1) fun a t2=>?_) fun _=>ite_bt Iff.rfl (fun _=>open_bt fun t1=>then_bt (ih 8 _ t1) fun a t2=>?_) fun _=>ih 9 op ts) fun _=>?_
  ·show Except.ok _=Except.ok _
   rw[←mk1_bt]
   rfl
  ·show Except.ok _=Except.ok _
   rw[←mk1_bt]
   rfl
  refine ite_bt Iff.rfl (fun _=>then_bt (ih 10 op ts) fun a t1=>post_bt n a t1) fun _=>?_
  refine ite_bt Iff.rfl (fun _=>?_) fun _=>?_
  ·show Except.ok _=Except.ok _
   unfold leafE
   rw[nop_mk]
   rfl
  refine ite_bt Iff.rfl (fun _=>ite_bt Iff.rfl (fun _=>open_bt fun t1=>then_bt (list_bt (ih 0 _) _ n t1) fun l t2=>then_bt (want_bt _ t2) fun _ t3=>?_) fun _=>?_) fun _=>?_
  ·show Except.ok _=Except.ok _
   rw[nop_mk]
   rfl
  ·show Except.ok _=Except.ok _
   rw[nop_mk]
   rfl
  refine ite_bt Iff.rfl (fun _=>?_) fun _=>?_
  ·show Except.ok _=Except.ok _
   unfold leafE
   rw[nop_mk]
   rfl
  refine ite_bt Iff.rfl (fun _=>?_) fun _=>?_
  ·show Except.ok _=Except.ok _
   unfold leafE
   rw[nop_mk]
   rfl
  exact ite_bt Iff.rfl (fun _=>open_bt fun t1=>then_bt (ih 0 _ t1) fun a t2=>then_bt (want_bt _ t2) fun _ t3=>rfl) fun _=>rfl
theorem param_bt(ts:List Tok):paramT (ts.map bt)=nopR Pm.nop (paramT ts):=by
 unfold paramT
 rw[hd_bt]
 refine then_bt (name_bt ts) fun s t1=>then_bt (want_bt _ t1) fun _ t2=>?_
 rw[hd_bt,tail_bt]
 exact ite_bt Iff.rfl (fun _=>rfl) fun _=>then_bt (want_bt _ t2) fun _ t3=>rfl
theorem in_bt(ts:List Tok):inT (ts.map bt)=nopR Pm.nop (inT ts):=by
 unfold inT
 refine then_bt (param_bt ts) fun p t1=>?_
 rw[hd_bt,tail_bt]
 exact ite_bt Iff.rfl (fun _=>then_bt (want_bt _ _) fun _ t2=>then_bt (num_bt 1 t2) fun a t3=>then_bt (want_bt _ t3) fun _ t4=>then_bt (num_bt 0 t4) fun b t5=>then_bt (want_bt _ t5) fun _ t6=>rfl) fun _=>rfl
theorem out_bt(ts:List Tok):outT (ts.map bt)=nopR Pm.nop (outT ts):=by
 unfold outT
 refine then_bt (param_bt ts) fun p t1=>?_
 rw[hd_bt,tail_bt]
 exact ite_bt Iff.rfl (fun _=>then_bt (num_bt 1 _) fun a t2=>rfl) fun _=>rfl
theorem inOf_bt(fl:Bool)(ts:List Tok):inOf fl (ts.map bt)=nopR Pm.nop (inOf fl ts):=by
 cases fl
 ·exact param_bt ts
 ·exact in_bt ts
theorem outOf_bt(fl:Bool)(ts:List Tok):outOf' fl (ts.map bt)=nopR Pm.nop (outOf' fl ts):=by
 cases fl
 ·exact param_bt ts
 ·exact out_bt ts
theorem params_bt{one:List Tok→PR Pm}(h:∀ts,one (ts.map bt)=nopR Pm.nop (one ts))(n:Nat)(ts:List Tok):paramsT one n (ts.map bt)=nopR (List.map Pm.nop) (paramsT one n ts):=by
 unfold paramsT
 refine then_bt (want_bt _ ts) fun _ t1=>?_
 rw[hd_bt,tail_bt]
 exact ite_bt Iff.rfl (fun _=>rfl) fun _=>then_bt (list_bt h _ n t1) fun l t2=>then_bt (want_bt _ t2) fun _ t3=>rfl
theorem vars_bt:∀n l ts,varsL n (l.map Pm.nop) (ts.map bt)=nopR (List.map Pm.nop) (varsL n l ts)
 | 0,_,_=>rfl
 | n+1,l,ts=>by
  unfold varsL
  rw[hd_bt]
  refine ite_bt (by rw[ne_eq,List.map_eq_nil_iff];rfl) (fun _=>rfl) fun _=>then_bt (param_bt ts) fun p t1=>then_bt (want_bt _ t1) fun _ t2=>?_
  have:=vars_bt n (l++[p]) t2
  rwa[List.map_append] at this
theorem varsT_bt(n:Nat)(ts:List Tok):varsT n (ts.map bt)=nopR (List.map Pm.nop) (varsT n ts):=by
 unfold varsT
 rw[hd_bt,tail_bt]
 exact ite_bt Iff.rfl (fun _=>vars_bt n [] _) fun _=>rfl
theorem eqR_bt(n op:Nat)(pl:Int)(ns:List ByteArray)(ts:List Tok):eqR n op 0 ns (ts.map bt)=nopR Eqn.nop (eqR n op pl ns ts):=by
 unfold eqR
 exact then_bt (want_bt _ ts) fun _ t1=>then_bt (pp_bt n 0 op t1) fun e t2=>then_bt (want_bt _ t2) fun _ t3=>rfl
theorem names_bt(n:Nat)(ts:List Tok):listT nameT ⟨#[44]⟩ n (ts.map bt)=nopR id (listT nameT ⟨#[44]⟩ n ts):=by
 have:=list_bt (g:=id) name_bt ⟨#[44]⟩ n ts
 rwa[List.map_id_fun] at this
theorem eqT_bt(n op:Nat)(ts:List Tok):eqT n op (ts.map bt)=nopR Eqn.nop (eqT n op ts):=by
 unfold eqT
 rw[hd_bt,tail_bt]
 exact ite_bt Iff.rfl (fun _=>then_bt (names_bt n _) fun ns t1=>then_bt (want_bt _ t1) fun _ t2=>eqR_bt n op _ ns t2) fun _=>then_bt (name_bt ts) fun s t1=>eqR_bt n op _ [s] t1
theorem eqs_bt(n op:Nat):∀k l ts,eqsL n op k (l.map Eqn.nop) (ts.map bt)=nopR (List.map Eqn.nop) (eqsL n op k l ts)
 | 0,_,_=>rfl
 | k+1,l,ts=>by
  unfold eqsL
  rw[hd_bt,tail_bt]
  refine ite_bt Iff.rfl (fun _=>rfl) fun _=>then_bt (eqT_bt n op ts) fun q t1=>?_
  have:=eqs_bt n op k (l++[q]) t1
  rwa[List.map_append] at this
theorem node_bt(n op:Nat)(ts:List Tok):nodeT n op (ts.map bt)=nopR Nd.nop (nodeT n op ts):=by
 unfold nodeT
 rw[hd_bt,tail_bt]
 exact then_bt (name_bt _) fun s t1=>then_bt (params_bt (inOf_bt _) n t1) fun i t2=>then_bt (want_bt _ t2) fun _ t3=>then_bt (params_bt (outOf_bt _) n t3) fun o t4=>then_bt (varsT_bt n t4) fun v t5=>then_bt (want_bt _ t5) fun _ t6=>then_bt (eqs_bt n op n [] t6) fun q t7=>rfl
theorem nodes_bt(n op:Nat):∀k l ts,nodesL n op k (l.map Nd.nop) (ts.map bt)=nopR (List.map Nd.nop) (nodesL n op k l ts)
 | 0,_,_=>rfl
 | k+1,l,ts=>by
  unfold nodesL
  rw[hd_bt]
  refine ite_bt Iff.rfl (fun _=>then_bt (node_bt n op ts) fun q t1=>?_) fun _=>rfl
  have:=nodes_bt n op k (l++[q]) t1
  rwa[List.map_append] at this
theorem whole_bt(ts:List Tok):wholeT (ts.map bt)=nopR (List.map Nd.nop) (wholeT ts):=by
 unfold wholeT
 rw[List.length_map]
 exact nodes_bt _ _ _ [] ts
theorem nop_size:∀e:Ex,e.nop.size=e.size
 | .mk kd pl nm it dn a c l=>by simp only[Ex.nop,Ex.size,all l]
where all:∀l:List Ex,sizes (Ex.nop.nops l)=sizes l
 | []=>rfl
 | e::r=>by simp only[Ex.nop.nops,sizes,nop_size e,all r]
theorem nop_depth:∀e:Ex,e.nop.depth=e.depth
 | .mk kd pl nm it dn a c l=>by simp only[Ex.nop,Ex.depth,all l]
where all:∀l:List Ex,deepest (Ex.nop.nops l)=deepest l
 | []=>rfl
 | e::r=>by simp only[Ex.nop.nops,deepest,nop_depth e,all r]
theorem nop_shape:∀e:Ex,e.nop.shape=e.shape
 | .mk kd pl nm it dn a c l=>by simp only[Ex.nop,Ex.shape,(all l).1,(all l).2]
where all:∀l:List Ex,(Ex.nop.nops l).length=l.length∧shapes (Ex.nop.nops l)=shapes l
 | []=>⟨rfl,rfl⟩
 | e::r=>by simp only[Ex.nop.nops,shapes,List.length_cons,nop_shape e,(all r).1,(all r).2,and_self]
theorem eqSizes_nop(l:List Eqn):eqSizes (l.map Eqn.nop)=eqSizes l:=by
 induction l with
 | nil=>rfl
 | cons q r ih=>simp only[List.map_cons,eqSizes,Eqn.nop,nop_size,ih]
theorem eqDeep_nop(l:List Eqn):eqDeep (l.map Eqn.nop)=eqDeep l:=by
 induction l with
 | nil=>rfl
 | cons q r ih=>simp only[List.map_cons,eqDeep,Eqn.nop,nop_depth,ih]
theorem ndSizes_nop(l:List Nd):ndSizes (l.map Nd.nop)=ndSizes l:=by
 induction l with
 | nil=>rfl
 | cons n r ih=>simp only[List.map_cons,ndSizes,ih];rw[show(Nd.nop n).eqs=n.eqs.map Eqn.nop from rfl,eqSizes_nop]
theorem ndDeep_nop(l:List Nd):ndDeep (l.map Nd.nop)=ndDeep l:=by
 induction l with
 | nil=>rfl
 | cons n r ih=>simp only[List.map_cons,ndDeep,ih];rw[show(Nd.nop n).eqs=n.eqs.map Eqn.nop from rfl,eqDeep_nop]
theorem all_map{α:Type}{f:α→α}{p:α→Bool}(l:List α)(h:∀x,p (f x)=p x):(l.map f).all p=l.all p:=by
 induction l with
 | nil=>rfl
 | cons x r ih=>simp only[List.map_cons,List.all_cons,h,ih]
theorem pms_nop(a b:Bool)(p:Pm):pmsB a b p.nop=pmsB a b p:=rfl
theorem eqB_nop(q:Eqn):eqB q.nop=eqB q:=by
 unfold eqB Eqn.nop
 simp only[nop_shape]
theorem ndB_nop(n:Nd):ndB n.nop=ndB n:=by
 unfold ndB
 simp only[Nd.nop]
 rw[all_map _ (pms_nop n.fl false),all_map _ (pms_nop false n.fl),all_map _ (pms_nop false false),all_map _ eqB_nop]
theorem fewB_nop(n:Nd):fewB n.nop=fewB n:=by
 simp only[fewB,Nd.nop,List.length_map]
theorem may_nop(l:List Nd):mayOf (l.map Nd.nop)=mayOf l:=by
 unfold mayOf
 rw[List.length_map,all_map _ fewB_nop,all_map _ ndB_nop,ndDeep_nop,ndSizes_nop]
def endTok:Tok:=⟨0,⟨#[]⟩,0,0⟩
theorem read_back{q:List Tok→PR (List Nd)}(hq:∀ts,q (ts.map bt)=nopR (List.map Nd.nop) (q ts)){s:ByteArray}{k ts:List Tok}{l':List Nd}{n:Nat}(hs:lexOf s=(ts++[⟨0,⟨#[]⟩,0,n⟩],0,0))(hk:ts.map bt=k)(hr:q (k++[endTok])=.ok (l',[endTok]))(hm:mayOf l'=0) :
  ∃l,readT q s=.ok l∧l.map Nd.nop=l':=by
 have h:=hq (ts++[⟨0,⟨#[]⟩,0,n⟩])
 rw[List.map_append,hk,show([⟨0,⟨#[]⟩,0,n⟩]:List Tok).map bt=[endTok] from rfl,hr] at h
 unfold readT
 rw[hs,if_neg (by simp)]
 cases hx:q (ts++[⟨0,⟨#[]⟩,0,n⟩]) with
 | error e=>rw[hx] at h;cases h
 | ok r =>
  obtain⟨l,t⟩:=r
  rw[hx] at h
  simp only[nopR,Except.ok.injEq,Prod.mk.injEq] at h
  have h0:(hd t).kind=0:=by
   have:=hd_bt t
   rw[←h.2] at this
   exact(congrArg Tok.kind this).symm
  simp only
  rw[if_neg (by simp[h0]),if_neg (by rw[←may_nop,←h.1,hm];simp)]
  exact⟨l,rfl,h.1.symm⟩
open Ex.text Ex.good Ex.toks
def lev(rule:Int):Int:=if rule=0 then 1 else if rule=1 then 2 else if rule=2 then 3 else if rule=3 then 5 else if rule=4 then 6 else if rule=5 then 7 else 9
def ruleOf(kd:Int):Int:=if kd=21∨kd=22 then 0 else if kd=19 then 1 else if kd=18 then 2 else if 12≤kd∧kd≤17 then 3 else if kd=7∨kd=8 then 4 else if 9≤kd∧kd≤11 then 5 else 6
def Quiet(k:Int)(ts:List Tok):Prop:=(hd ts).text≠⟨#[40]⟩∧∀rule,k≤lev rule→sgn rule ts=none
theorem Quiet.mono{k m:Int}{ts:List Tok}(h:Quiet k ts)(hk:k≤m):Quiet m ts:=⟨h.1,fun r hr=>h.2 r (by omega)⟩
theorem sgn_sign{kd r:Int}{t:Tok}{ts:List Tok}(h:sgOf t.text.data.toList=some (r,kd))(rule:Int):sgn rule (t::ts)=if r=rule then some kd else none:=by
 unfold sgn
 rw[show hd (t::ts)=t from rfl,h]
theorem sgn_not{t:Tok}{ts:List Tok}(h:sgOf t.text.data.toList=none)(rule:Int):sgn rule (t::ts)=none:=by
 unfold sgn
 rw[show hd (t::ts)=t from rfl,h]
theorem quiet_not{t:Tok}{ts:List Tok}(h:sgOf t.text.data.toList=none)(h2:t.text≠⟨#[40]⟩)(k:Int):Quiet k (t::ts):=⟨h2,fun r _=>sgn_not h r⟩
theorem quiet_sign{kd r k:Int}{t:Tok}{ts:List Tok}(h:sgOf t.text.data.toList=some (r,kd))(h2:t.text≠⟨#[40]⟩)(hk:lev r<k):Quiet k (t::ts):=⟨h2,fun rule hr=>by
 rw[sgn_sign h,if_neg]
 rintro rfl
 omega⟩
theorem sign_facts:∀k:Nat,k<27→isTwo k→sgOf (signTok' k).text.data.toList=some (ruleOf k,(k:Int))∧(signTok' k).text≠⟨#[40]⟩∧lev (ruleOf k)=strong k∧(strong k=1∨strong k=2∨strong k=3∨strong k=5∨strong k=6∨strong k=7):=by
 intro k hk h
 have:k=7∨k=8∨k=9∨k=10∨k=11∨k=12∨k=13∨k=14∨k=15∨k=16∨k=17∨k=18∨k=19∨k=21∨k=22:=by unfold isTwo at h;omega
 rcases this with rfl|rfl|rfl|rfl|rfl|rfl|rfl|rfl|rfl|rfl|rfl|rfl|rfl|rfl|rfl<;>decide +kernel
theorem sg_up : sgOf (sg [42, 94]).text.data.toList = some (6, 24) := by decide +kernel
theorem sg_down : sgOf (sg [47, 94]).text.data.toList = some (6, 25) := by decide +kernel
theorem sg_late : sgOf (sg [126, 62]).text.data.toList = some (6, 26) := by decide +kernel
theorem sg_shut : sgOf (sg [41]).text.data.toList = none := by decide +kernel
theorem sg_comma : sgOf (sg [44]).text.data.toList = none := by decide +kernel
theorem sg_semi : sgOf (sg [59]).text.data.toList = none := by decide +kernel
theorem wd_then : sgOf (wd [116, 104, 101, 110]).text.data.toList = none := by decide +kernel
theorem wd_else : sgOf (wd [101, 108, 115, 101]).text.data.toList = none := by decide +kernel
def cont(P M r op:Nat)(e:Ex)(ts:List Tok):PR Ex :=
 if r=1 then (match sgn 0 ts with
  | none=>.ok (e,ts)
  | some k=>openT op ts fun t2=>(pp P 1 (op+1) t2).then fun b t3=>.ok (mk2 k e b,t3))
 else if r=2 then chainL (pp P 3 op) 1 M e ts
 else if r=3 then chainL (pp P 4 op) 2 M e ts
 else if r=5 then (match sgn 3 ts with
  | none=>.ok (e,ts)
  | some k=>(pp P 6 op ts.tail).then fun b t2=>.ok (mk2 k e b,t2))
 else if r=6 then chainL (pp P 7 op) 4 M e ts
 else if r=7 then chainL (pp P 8 op) 5 M e ts
 else if r=9 then postL M e ts
 else .ok (e,ts)
theorem chain_quiet{part:List Tok→PR Ex}{rule:Int}{M:Nat}{e:Ex}{ts:List Tok}(hM:1≤M)(h:sgn rule ts=none):chainL part rule M e ts=.ok (e,ts):=by
 obtain⟨m,rfl⟩:∃m,M=m+1:=⟨M-1,by omega⟩
 unfold chainL
 rw[h]
theorem post_quiet{M:Nat}{e:Ex}{ts:List Tok}(hM:1≤M)(h:sgn 6 ts=none):postL M e ts=.ok (e,ts):=by
 obtain⟨m,rfl⟩:∃m,M=m+1:=⟨M-1,by omega⟩
 unfold postL
 rw[h]
theorem cont_quiet{P M r op:Nat}{e:Ex}{ts:List Tok}(hM:1≤M)(h:Quiet r ts):cont P M r op e ts=.ok (e,ts):=by
 unfold cont
 split
 ·rename_i hr;subst hr;rw[h.2 0 (by decide)]
 split
 ·rename_i hr;subst hr;exact chain_quiet hM (h.2 1 (by decide))
 split
 ·rename_i hr;subst hr;exact chain_quiet hM (h.2 2 (by decide))
 split
 ·rename_i hr;subst hr;rw[h.2 3 (by decide)]
 split
 ·rename_i hr;subst hr;exact chain_quiet hM (h.2 4 (by decide))
 split
 ·rename_i hr;subst hr;exact chain_quiet hM (h.2 5 (by decide))
 split
 ·rename_i hr;subst hr;exact post_quiet hM (h.2 6 (by decide))
 ·rfl
def Plain(r:Nat)(ts:List Tok):Prop:=(r=0→(hd ts).text≠⟨#[105,102]⟩)∧(r=4→(hd ts).text≠⟨#[110,111,116]⟩)∧(r=8→(hd ts).text≠⟨#[45]⟩∧(hd ts).text≠⟨#[116,97,105,108]⟩)
theorem then_ok(p:PR Ex):(p.then fun a t=>.ok (a,t))=p:=by
 cases p<;>rfl
theorem pp_down{r:Nat}(hr:r≤9)(n op:Nat)(ts:List Tok)(h:Plain r ts):pp (n+1) r op ts=(pp n (r+1) op ts).then fun e t=>cont n n r op e t:=by
 have hc:r=0∨r=1∨r=2∨r=3∨r=4∨r=5∨r=6∨r=7∨r=8∨r=9:=by omega
 rcases hc with rfl|rfl|rfl|rfl|rfl|rfl|rfl|rfl|rfl|rfl
 ·refine Eq.trans ?_ (then_ok _).symm
  show(if (hd ts).text=⟨#[105,102]⟩ then _ else pp n 1 op ts)=_
  rw[if_neg (h.1 rfl)]
 ·rfl
 ·rfl
 ·rfl
 ·refine Eq.trans ?_ (then_ok _).symm
  show(if (hd ts).text=⟨#[110,111,116]⟩ then _ else pp n 5 op ts)=_
  rw[if_neg (h.2.1 rfl)]
 ·rfl
 ·rfl
 ·rfl
 ·refine Eq.trans ?_ (then_ok _).symm
  show(if (hd ts).text=⟨#[45]⟩ then _ else if (hd ts).text=⟨#[116,97,105,108]⟩ then _ else pp n 9 op ts)=_
  rw[if_neg (h.2.2 rfl).1,if_neg (h.2.2 rfl).2]
 ·rfl
theorem pp_descend{op:Nat}{ts rest:List Tok}{e:Ex}:∀(d r r' N:Nat),r+d=r'→r'≤10→(∀j,r≤j→j<r'→Plain j ts)→Quiet r rest→d+1≤N→pp (N-d) r' op ts=.ok (e,rest)→pp N r op ts=.ok (e,rest)
 | 0,r,r',N,h1,_,_,_,_,h=>by
  obtain rfl:r=r':=by omega
  exact h
 | d+1,r,r',N,h1,h2,h3,h4,h5,h=>by
  obtain⟨n,rfl⟩:∃n,N=n+1:=⟨N-1,by omega⟩
  have ih:=pp_descend d (r+1) r' n (by omega) h2 (fun j hj hj2=>h3 j (by omega) hj2) (h4.mono (by omega)) (by omega) (by rw[show n-d=n+1-(d+1) by omega];exact h)
  rw[pp_down (by omega) n op ts (h3 r (Nat.le_refl _) (by omega)),ih]
  exact cont_quiet (by omega) h4
def Opens(s:Int)(ts:List Tok):Prop:=∃t r,ts=t::r∧(t.text=⟨#[105,102]⟩→s≤0)∧(t.text=⟨#[110,111,116]⟩→s≤4)∧(t.text=⟨#[45]⟩∨t.text=⟨#[116,97,105,108]⟩→s≤8)
theorem Opens.plain{s:Int}{ts:List Tok}(h:Opens s ts)(rest:List Tok){j:Nat}(hj:(j:Int)<s):Plain j (ts++rest):=by
 obtain⟨t,r,rfl,h1,h2,h3⟩:=h
 refine⟨fun e=>?_,fun e=>?_,fun e=>⟨?_,?_⟩⟩
 ·intro k;have:=h1 k;omega
 ·intro k;have:=h2 k;omega
 ·intro k;have:=h3 (Or.inl k);omega
 ·intro k;have:=h3 (Or.inr k);omega
theorem Opens.app{s:Int}{ts:List Tok}(h:Opens s ts)(r:List Tok):Opens s (ts++r):=by
 obtain⟨t,q,rfl,h1⟩:=h
 exact⟨t,q++r,rfl,h1⟩
theorem Opens.mono{s s':Int}{ts:List Tok}(h:Opens s ts)(hs:s'≤s):Opens s' ts:=by
 obtain⟨t,q,rfl,h1,h2,h3⟩:=h
 exact⟨t,q,rfl,fun k=>by have:=h1 k;omega,fun k=>by have:=h2 k;omega,fun k=>by have:=h3 k;omega⟩
theorem Opens.none{s:Int}{t:Tok}{r:List Tok}(h1:t.text≠⟨#[105,102]⟩)(h2:t.text≠⟨#[110,111,116]⟩)(h3:t.text≠⟨#[45]⟩)(h4:t.text≠⟨#[116,97,105,108]⟩):Opens s (t::r) :=
 ⟨t,r,rfl,fun k=>absurd k h1,fun k=>absurd k h2,fun k=>k.elim (fun k=>absurd k h3) fun k=>absurd k h4⟩
theorem par_opens{k:Int}{x:Ex}(h:Opens (strong x.kd) x.toks):Opens k (parT k (x.kd,x.toks)):=by
 unfold parT
 by_cases hk:strong x.kd<k
 ·rw[if_pos hk];exact Opens.none (by decide) (by decide) (by decide) (by decide)
 ·rw[if_neg hk];exact h.mono (by omega)
theorem name_opens{nm:ByteArray}(hn:nameB nm=true)(s:Int)(r:List Tok):Opens s (nmTok nm::r):=by
 obtain⟨h1,h2,h3,h4⟩:=name_bytes hn
 have hw:∀l:List UInt8,l∈wordList→nm≠⟨l.toArray⟩:=fun l hl e=>h4 (by rw[e];simpa using hl)
 refine Opens.none (hw [105,102] (by decide)) (hw [110,111,116] (by decide)) ?_ (hw [116,97,105,108] (by decide))
 intro e
 have e:nm=⟨#[45]⟩:=e
 rw[e] at h2
 exact absurd (h2 45 (by simp)) (by decide)
theorem num_opens{n:Int}(hn:0≤n)(s:Int)(r:List Tok):Opens s (numTok n::r):=by
 have h1:=dec_digit n.toNat
 have hw:∀(c:UInt8)(l:List UInt8),¬(48≤c.toNat∧c.toNat≤57)→(numTok n).text≠⟨(c::l).toArray⟩:=fun c l hc e=>by
  have e2:Lib.itoa n=c::l:=by
   have:=congrArg (fun b:ByteArray=>b.data.toList) e
   simpa [numTok] using this
  rw[itoa_dec hn] at e2
  exact hc (h1 c (by rw[e2];exact List.mem_cons_self ..))
 exact Opens.none (hw 105 [102] (by decide)) (hw 110 [111,116] (by decide)) (hw 45 [] (by decide)) (hw 116 [97,105,108] (by decide))
theorem two_first{kd:Int}(hk:isTwo kd):strong kd≤firstOf kd∧1≤strong kd∧strong kd≤7:=by
 obtain⟨k,rfl⟩:∃k:Nat,kd=k:=⟨kd.toNat,by unfold isTwo at hk;omega⟩
 have hk27:k<27:=by unfold isTwo at hk;omega
 have h1:=((kinds_nat k hk27).2 hk).1
 have h2:=(sign_facts k hk27 hk).2.2.2
 omega
theorem toks_opens : ∀ e : Ex, e.shape = true → Opens (strong e.kd) e.toks := by
 refine Ex.byKind (P:=fun e=>Opens (strong e.kd) e.toks) ?_ ?_ ?_ ?_ ?_ ?_ ?_ ?_ ?_
 ·intro pl nm a c hn;exact name_opens hn _ _
 ·intro pl it a c hi;exact num_opens hi _ _
 ·intro pl it a c hi
  show Opens _ [boolTok it]
  unfold boolTok
  split
  ·exact Opens.none (by decide) (by decide) (by decide) (by decide)
  ·exact Opens.none (by decide) (by decide) (by decide) (by decide)
 ·intro pl nm a c l hn _ _
  rw[toks_4]
  exact name_opens hn _ _
 ·rintro kd pl a c x (rfl|rfl|rfl) sx hx
  ·exact⟨sg [45],_,rfl,fun k=>absurd k (by decide),fun k=>absurd k (by decide),fun _=>(by decide:strong 5≤8)⟩
  ·exact⟨wd [110,111,116],_,rfl,fun k=>absurd k (by decide),fun _=>(by decide:strong 6≤4),fun k=>absurd k (by decide)⟩
  ·exact⟨wd [116,97,105,108],_,rfl,fun k=>absurd k (by decide),fun k=>absurd k (by decide),fun _=>(by decide:strong 23≤8)⟩
 ·intro kd pl it a c x hk hi sx hx
  have:=(par_opens (k:=9) hx)
  rcases hk with rfl|rfl
  ·exact(this.app _).mono (by decide:strong 24≤9)
  ·exact(this.app _).mono (by decide:strong 25≤9)
 ·intro pl it dn a c x hi hd sx hx
  exact((par_opens (k:=9) hx).app _).mono (by decide:strong 26≤9)
 ·intro pl a c x y z sx sy sz hx hy hz
  exact⟨wd [105,102],_,rfl,fun _=>(by decide:strong 20≤0),fun k=>absurd k (by decide),fun k=>absurd k (by decide)⟩
 ·intro kd pl a c x y hk sx sy hx hy
  rw[two_toks hk]
  exact((par_opens (k:=firstOf kd) hx).app _).mono (two_first hk).1
def chainy(s:Int):Prop:=s=2∨s=3∨s=6∨s=7∨s=9
instance (s:Int):Decidable (chainy s):=inferInstanceAs (Decidable (_∨_))
def ReadsOwn(e:Ex):Prop:=∀(N op:Nat)(rest:List Tok),13*e.toks.length+11≤N+(strong e.kd).toNat→op+2*e.depth≤200→Quiet (tailOf e.kd) rest →
 ∃M,N≤M+1+e.toks.length∧1≤M∧pp N (strong e.kd).toNat op (e.toks++rest)=if chainy (strong e.kd) then cont (N-1) M (strong e.kd).toNat op e.nop rest else .ok (e.nop,rest)
theorem strong_10(k:Int):0≤strong k∧strong k≤10:=by
 unfold strong
 repeat' split
 all_goals omega
theorem ReadsOwn.ok{e:Ex}(h:ReadsOwn e)(hsh:e.shape=true){r N op:Nat}{rest:List Tok}(hr:(r:Int)≤strong e.kd)(hN:13*e.toks.length+11≤N+r)(ho:op+2*e.depth≤200)(hq:Quiet r rest):pp N r op (e.toks++rest)=.ok (e.nop,rest):=by
 have hs:=strong_10 e.kd
 have ht:=strong_tail hsh
 have hpos:1≤e.toks.length:=by obtain⟨t,q,h1,-⟩:=toks_opens e hsh;rw[h1];simp
 obtain⟨M,hM1,hM2,hM⟩:=h (N-((strong e.kd).toNat-r)) op rest (by omega) ho (hq.mono (by omega))
 refine pp_descend ((strong e.kd).toNat-r) r (strong e.kd).toNat N (by omega) (by omega) (fun j hj hj2=>(toks_opens e hsh).plain rest (by omega)) hq (by omega) ?_
 rw[hM]
 split
 ·exact cont_quiet hM2 (hq.mono (by omega))
 ·rfl
theorem ReadsOwn.go{e:Ex}(h:ReadsOwn e)(hsh:e.shape=true){r N op:Nat}{rest:List Tok}(hr:(r:Int)≤strong e.kd)(hc:chainy r)(hN:13*e.toks.length+11≤N+r)(ho:op+2*e.depth≤200)(hq:Quiet (r+1) rest)(ht:(r:Int)=strong e.kd→Quiet (tailOf e.kd) rest) :
  ∃M,N≤M+1+e.toks.length∧1≤M∧pp N r op (e.toks++rest)=cont (N-1) M r op e.nop rest:=by
 have hs:=strong_10 e.kd
 have hpos:1≤e.toks.length:=by obtain⟨t,q,h1,-⟩:=toks_opens e hsh;rw[h1];simp
 by_cases he:(r:Int)=strong e.kd
 ·obtain⟨M,hM1,hM2,hM⟩:=h N op rest (by omega) ho (ht he)
  have e2:(strong e.kd).toNat=r:=by omega
  rw[e2,←he,if_pos hc] at hM
  exact⟨M,hM1,hM2,hM⟩
 ·have hr9:r≤9:=by unfold chainy at hc;omega
  obtain⟨n,rfl⟩:∃n,N=n+1:=⟨N-1,by omega⟩
  refine⟨n,by omega,by omega,?_⟩
  rw[pp_down hr9 n op _ ((toks_opens e hsh).plain rest (by omega)),h.ok hsh (r:=r+1) (by omega) (by omega) ho (by exact_mod_cast hq)]
  rfl
theorem paren_10{e:Ex}(h:ReadsOwn e)(hsh:e.shape=true){N op:Nat}{rest:List Tok}(hN:13*e.toks.length+12≤N)(ho:op+1+2*e.depth≤200):pp N 10 op (sg [40]::(e.toks++[sg [41]])++rest)=.ok (e.nop,rest):=by
 obtain⟨n,rfl⟩:∃n,N=n+1:=⟨N-1,by omega⟩
 have h1:=h.ok hsh (r:=0) (N:=n) (op:=op+1) (rest:=sg [41]::rest) (strong_10 _).1 (by omega) ho (quiet_not sg_shut (by decide) _)
 have e1:sg [40]::(e.toks++[sg [41]])++rest=sg [40]::(e.toks++sg [41]::rest):=by simp
 rw[e1]
 show openT op (sg [40]::(e.toks++sg [41]::rest)) (fun t1=>(pp n 0 (op+1) t1).then fun a t2=>(wantT ⟨#[41]⟩ t2).then fun _ t3=>.ok (a,t3))=_
 unfold openT
 rw[if_neg (by omega)]
 show((pp n 0 (op+1) (e.toks++sg [41]::rest)).then fun a t2=>(wantT ⟨#[41]⟩ t2).then fun _ t3=>.ok (a,t3))=_
 rw[h1]
 rfl
theorem par_plain{e:Ex}{rest:List Tok}{j:Nat}:Plain j (sg [40]::(e.toks++[sg [41]])++rest):=⟨fun _=>(by decide:(sg [40]).text≠⟨#[105,102]⟩),fun _=>(by decide:(sg [40]).text≠⟨#[110,111,116]⟩),fun _=>⟨(by decide:(sg [40]).text≠⟨#[45]⟩),(by decide:(sg [40]).text≠⟨#[116,97,105,108]⟩)⟩⟩
theorem par_ok{x:Ex}(h:ReadsOwn x)(hsh:x.shape=true){r N op:Nat}{rest:List Tok}(hr:r≤10)(hN:13*(parT r (x.kd,x.toks)).length+11≤N+r)(ho:op+1+2*x.depth≤200)(hq:Quiet r rest):pp N r op (parT r (x.kd,x.toks)++rest)=.ok (x.nop,rest):=by
 unfold parT at hN ⊢
 by_cases hk:strong x.kd<r
 ·rw[if_pos hk] at hN ⊢
  simp only[List.length_cons,List.length_append,List.length_nil] at hN
  exact pp_descend (10-r) r 10 N (by omega) (by omega) (fun j _ _=>par_plain) hq (by omega) (paren_10 h hsh (by omega) ho)
 ·rw[if_neg hk] at hN ⊢
  exact h.ok hsh (by omega) hN (by omega) hq
theorem par_go{x:Ex}(h:ReadsOwn x)(hsh:x.shape=true){r N op:Nat}{rest:List Tok}(hr:r≤9)(hc:chainy r)(hN:13*(parT r (x.kd,x.toks)).length+11≤N+r)(ho:op+1+2*x.depth≤200)(hq:Quiet (r+1) rest)(ht:(r:Int)≤strong x.kd→(r:Int)=strong x.kd→Quiet (tailOf x.kd) rest) :
  ∃M,N≤M+1+(parT r (x.kd,x.toks)).length∧1≤M∧pp N r op (parT r (x.kd,x.toks)++rest)=cont (N-1) M r op x.nop rest:=by
 by_cases hk:strong x.kd<r
 ·have hp:parT r (x.kd,x.toks)=sg [40]::(x.toks++[sg [41]]):=by unfold parT;rw[if_pos hk]
  rw[hp] at hN ⊢
  simp only[List.length_cons,List.length_append,List.length_nil] at hN
  obtain⟨n,rfl⟩:∃n,N=n+1:=⟨N-1,by omega⟩
  refine⟨n,by omega,by omega,?_⟩
  have h1:=pp_descend (op:=op) (ts:=sg [40]::(x.toks++[sg [41]])++rest) (rest:=rest) (e:=x.nop) (10-(r+1)) (r+1) 10 n (by omega) (by omega) (fun j _ _=>par_plain) (by exact_mod_cast hq) (by omega) (paren_10 h hsh (by omega) ho)
  rw[pp_down (by omega) n op _ par_plain,h1]
  rfl
 ·have hp:parT r (x.kd,x.toks)=x.toks:=by unfold parT;rw[if_neg hk]
  rw[hp] at hN ⊢
  exact h.go hsh (by omega) hc hN (by omega) hq fun e=>ht (by omega) e
theorem own_plain {e : Ex} (s : Nat) (hs : strong e.kd = s) (hc : ¬ chainy (s : Int)) (H : ∀ (N op : Nat) (rest : List Tok), 13 * e.toks.length + 11 ≤ N + s → op + 2 * e.depth ≤ 200 → Quiet (tailOf e.kd) rest → pp N s op (e.toks ++ rest) = .ok (e.nop, rest)) : ReadsOwn e := by
  intro N op rest hN ho hq
  have hs2 : (strong e.kd).toNat = s := by omega
  rw [hs2] at hN ⊢
  refine ⟨N + 1, by omega, by omega, ?_⟩
  rw [hs, if_neg hc]
  exact H N op rest hN ho hq
theorem own_chain {e : Ex} (s : Nat) (hs : strong e.kd = s) (hc : chainy (s : Int)) (H : ∀ (N op : Nat) (rest : List Tok), 13 * e.toks.length + 11 ≤ N + s → op + 2 * e.depth ≤ 200 → Quiet (tailOf e.kd) rest → ∃ M, N ≤ M + 1 + e.toks.length ∧ 1 ≤ M ∧ pp N s op (e.toks ++ rest) = cont (N - 1) M s op e.nop rest) : ReadsOwn e := by
  intro N op rest hN ho hq
  have hs2 : (strong e.kd).toNat = s := by omega
  rw [hs2] at hN ⊢
  obtain ⟨M, h1, h2, h3⟩ := H N op rest hN ho hq
  refine ⟨M, h1, h2, ?_⟩
  rw [hs, if_pos hc]
  exact h3
theorem depth_mem {l : List Ex} {x : Ex} (h : x ∈ l) : x.depth ≤ deepest l := by
  induction l with
  | nil => cases h
  | cons y r ih =>
    simp only [deepest]
    rcases List.mem_cons.1 h with rfl | h
    · omega
    · have := ih h; omega
theorem rests_mem {sep : Tok} {l : List (List Tok)} {x : List Tok} (h : x ∈ l) : x.length ≤ (restsT sep l).length := by
  induction l with
  | nil => cases h
  | cons y r ih =>
    simp only [restsT, List.length_cons, List.length_append]
    rcases List.mem_cons.1 h with rfl | h
    · omega
    · have := ih h; omega
theorem rests_many (sep : Tok) (l : List (List Tok)) : l.length ≤ (restsT sep l).length := by
  induction l with
  | nil => exact Nat.le_refl _
  | cons y r ih => simp only [restsT, List.length_cons, List.length_append]; omega
theorem quiet_rests (l : List (List Tok)) (rest : List Tok) : Quiet 0 (restsT (sg [44]) l ++ sg [41] :: rest) := by
  cases l with
  | nil => exact quiet_not sg_shut (by decide) _
  | cons x r => exact quiet_not sg_comma (by decide) _
theorem args_read {n op : Nat} {rest : List Tok} : ∀ (l acc : List Ex) (m : Nat), (∀ x ∈ l, x.shape = true ∧ ReadsOwn x ∧ 13 * x.toks.length + 11 ≤ n ∧ op + 2 * x.depth ≤ 200) → l.length + 1 ≤ m →
    listL (pp n 0 op) ⟨#[44]⟩ m acc (restsT (sg [44]) (l.map Ex.toks) ++ sg [41] :: rest) = .ok (acc ++ l.map Ex.nop, sg [41] :: rest)
  | [], acc, m, _, hm => by
    obtain ⟨k, rfl⟩ : ∃ k, m = k + 1 := ⟨m - 1, by simp only [List.length_nil] at hm; omega⟩
    show (if (sg [41]).text = ⟨#[44]⟩ then _ else Except.ok (acc, sg [41] :: rest)) = _
    rw [if_neg (by decide), List.map_nil, List.append_nil]
  | x :: l, acc, m, hx, hm => by
    obtain ⟨k, rfl⟩ : ∃ k, m = k + 1 := ⟨m - 1, by simp only [List.length_cons] at hm; omega⟩
    obtain ⟨h1, h2, h3, h4⟩ := hx x (List.mem_cons_self ..)
    have ih := args_read (rest := rest) l (acc ++ [x.nop]) k (fun y hy => hx y (List.mem_cons_of_mem _ hy)) (by simp only [List.length_cons] at hm; omega)
    have e1 : restsT (sg [44]) ((x :: l).map Ex.toks) ++ sg [41] :: rest = sg [44] :: (x.toks ++ (restsT (sg [44]) (l.map Ex.toks) ++ sg [41] :: rest)) := by simp only [List.map_cons, restsT, List.cons_append, List.append_assoc]
    rw [e1]
    show (if (sg [44]).text = ⟨#[44]⟩ then (pp n 0 op (x.toks ++ (restsT (sg [44]) (l.map Ex.toks) ++ sg [41] :: rest))).then fun e ts1 => listL (pp n 0 op) ⟨#[44]⟩ k (acc ++ [e]) ts1 else _) = _
    rw [if_pos (by decide), h2.ok h1 (r := 0) (strong_10 _).1 (by omega) h4 (quiet_rests _ _)]
    show listL (pp n 0 op) ⟨#[44]⟩ k (acc ++ [x.nop]) _ = _
    rw [ih, List.map_cons, List.append_assoc]
    rfl
theorem num_read {l n : Int} (h : l ≤ n) (ts : List Tok) : numT l (numTok n :: ts) = .ok (n, ts) := by
  unfold numT
  rw [if_pos]
  · rfl
  · exact ⟨rfl, by show ¬ n < l; omega⟩
theorem two_kinds : ∀ k : Nat, k < 27 → isTwo k → tailOf k = secondOf k ∧ (strong k = 1 → firstOf k = 2 ∧ secondOf k = 1) ∧ (strong k = 5 → firstOf k = 6 ∧ secondOf k = 6) ∧ (strong k ≠ 1 → strong k ≠ 5 → firstOf k = strong k ∧ secondOf k = strong k + 1) := by
  intro k hk h
  have : k = 7 ∨ k = 8 ∨ k = 9 ∨ k = 10 ∨ k = 11 ∨ k = 12 ∨ k = 13 ∨ k = 14 ∨ k = 15 ∨ k = 16 ∨ k = 17 ∨ k = 18 ∨ k = 19 ∨ k = 21 ∨ k = 22 := by unfold isTwo at h; omega
  rcases this with rfl | rfl | rfl | rfl | rfl | rfl | rfl | rfl | rfl | rfl | rfl | rfl | rfl | rfl | rfl <;> decide
theorem rule_kinds : ∀ k : Nat, k < 27 → isTwo k → (strong k = 1 → ruleOf k = 0) ∧ (strong k = 2 → ruleOf k = 1) ∧ (strong k = 3 → ruleOf k = 2) ∧ (strong k = 5 → ruleOf k = 3) ∧ (strong k = 6 → ruleOf k = 4) ∧ (strong k = 7 → ruleOf k = 5) := by
  intro k hk h
  have : k = 7 ∨ k = 8 ∨ k = 9 ∨ k = 10 ∨ k = 11 ∨ k = 12 ∨ k = 13 ∨ k = 14 ∨ k = 15 ∨ k = 16 ∨ k = 17 ∨ k = 18 ∨ k = 19 ∨ k = 21 ∨ k = 22 := by unfold isTwo at h; omega
  rcases this with rfl | rfl | rfl | rfl | rfl | rfl | rfl | rfl | rfl | rfl | rfl | rfl | rfl | rfl | rfl <;> decide
theorem post_step {m : Nat} {e : Ex} {ts : List Tok} {k : Int} (h : sgn 6 ts = some k) : postL (m + 1) e ts = if k = 26 then (lateT ts.tail).then fun x ts1 => postL m (mk1 k e.pl e x.1 x.2) ts1 else (numT 1 ts.tail).then fun a ts1 => postL m (mk1 k e.pl e a 0) ts1 := by
  rw [postL, h]
theorem chain_step {part : List Tok → PR Ex} {rule : Int} {m : Nat} {e : Ex} {ts : List Tok} {k : Int} (h : sgn rule ts = some k) : chainL part rule (m + 1) e ts = (part ts.tail).then fun e2 ts2 => chainL part rule m (mk2 k e e2) ts2 := by
  rw [chainL, h]
theorem nine_tail {x : Ex} (sx : x.shape = true) (h : 9 = strong x.kd) : 9 < tailOf x.kd := by
  obtain ⟨q, q1, q2, -⟩ := kind_of sx
  rw [q2] at h ⊢
  exact nine_nat q q1 (by omega)
set_option maxHeartbeats 1600000 in
theorem reads_own : ∀ e : Ex, e.shape = true → ReadsOwn e := by
  refine Ex.byKind (P := ReadsOwn) ?_ ?_ ?_ ?_ ?_ ?_ ?_ ?_ ?_
  · intro pl nm a c hn
    refine own_plain 10 (by decide : strong 1 = 10) (by decide) fun N op rest hN ho hq => ?_
    have hN1 : 1 ≤ N := by have : (Ex.mk 1 pl nm 0 0 a c []).toks.length = 1 := rfl; omega
    obtain ⟨n, rfl⟩ : ∃ n, N = n + 1 := ⟨N - 1, by omega⟩
    show (if (hd rest).text = ⟨#[40]⟩ then _ else Except.ok (Ex.mk 1 0 nm 0 0 none 0 [], rest)) = _
    rw [if_neg hq.1]
    rfl
  · intro pl it a c hi
    refine own_plain 10 (by decide : strong 2 = 10) (by decide) fun N op rest hN ho hq => ?_
    have hN1 : 1 ≤ N := by have : (Ex.mk 2 pl ⟨#[]⟩ it 0 a c []).toks.length = 1 := rfl; omega
    obtain ⟨n, rfl⟩ : ∃ n, N = n + 1 := ⟨N - 1, by omega⟩
    rfl
  · intro pl it a c hi
    refine own_plain 10 (by decide : strong 3 = 10) (by decide) fun N op rest hN ho hq => ?_
    have hN1 : 1 ≤ N := by have : (Ex.mk 3 pl ⟨#[]⟩ it 0 a c []).toks.length = 1 := rfl; omega
    obtain ⟨n, rfl⟩ : ∃ n, N = n + 1 := ⟨N - 1, by omega⟩
    rcases hi with rfl | rfl
    · rfl
    · rfl
  · intro pl nm a c l hn hl0 hl
    refine own_plain 10 (by decide : strong 4 = 10) (by decide) fun N op rest hN ho hq => ?_
    rw [toks_4] at hN ⊢
    obtain ⟨x, r, rfl⟩ : ∃ x r, l = x :: r := by cases l with | nil => exact absurd rfl hl0 | cons x r => exact ⟨x, r, rfl⟩
    have hb : betweenT (sg [44]) ((x :: r).map Ex.toks) = x.toks ++ restsT (sg [44]) (r.map Ex.toks) := rfl
    rw [hb] at hN ⊢
    simp only [List.length_cons, List.length_append, List.length_nil] at hN
    have hd1 : ∀ y ∈ x :: r, op + 1 + 2 * y.depth ≤ 200 := fun y hy => by
      have := depth_mem hy
      simp only [Ex.depth] at ho
      omega
    obtain ⟨n, rfl⟩ : ∃ n, N = n + 1 := ⟨N - 1, by omega⟩
    have hmany := rests_many (sg [44]) (r.map Ex.toks)
    rw [List.length_map] at hmany
    have h0 := hl x (List.mem_cons_self ..)
    have h1 := args_read (n := n) (op := op + 1) (rest := rest) r [x.nop] n (fun y hy => ⟨(hl y (List.mem_cons_of_mem _ hy)).1, (hl y (List.mem_cons_of_mem _ hy)).2, by have := rests_mem (sep := sg [44]) (List.mem_map_of_mem (f := Ex.toks) hy); omega, hd1 y (List.mem_cons_of_mem _ hy)⟩) (by omega)
    have e1 : nmTok nm :: sg [40] :: (x.toks ++ restsT (sg [44]) (r.map Ex.toks) ++ [sg [41]]) ++ rest = nmTok nm :: sg [40] :: (x.toks ++ (restsT (sg [44]) (r.map Ex.toks) ++ sg [41] :: rest)) := by simp only [List.cons_append, List.append_assoc, List.nil_append]
    rw [e1]
    show openT op (sg [40] :: (x.toks ++ (restsT (sg [44]) (r.map Ex.toks) ++ sg [41] :: rest))) (fun t1 => (listT (pp n 0 (op + 1)) ⟨#[44]⟩ n t1).then fun l t2 => (wantT ⟨#[41]⟩ t2).then fun _ t3 => .ok (Ex.mk 4 0 nm 0 0 none 0 l, t3)) = _
    unfold openT
    rw [if_neg (by have := hd1 x (List.mem_cons_self ..); omega)]
    show ((pp n 0 (op + 1) (x.toks ++ (restsT (sg [44]) (r.map Ex.toks) ++ sg [41] :: rest))).then fun e ts1 => listL (pp n 0 (op + 1)) ⟨#[44]⟩ n [e] ts1).then (fun l t2 => (wantT ⟨#[41]⟩ t2).then fun _ t3 => .ok (Ex.mk 4 0 nm 0 0 none 0 l, t3)) = _
    rw [h0.2.ok h0.1 (r := 0) (strong_10 _).1 (by omega) (hd1 x (List.mem_cons_self ..)) (quiet_rests _ _)]
    show (listL (pp n 0 (op + 1)) ⟨#[44]⟩ n [x.nop] _).then (fun l t2 => (wantT ⟨#[41]⟩ t2).then fun _ t3 => .ok (Ex.mk 4 0 nm 0 0 none 0 l, t3)) = _
    rw [h1, nop_mk]
    rfl
  · rintro kd pl a c x (rfl | rfl | rfl) sx hx
    · refine own_plain 8 (by decide : strong 5 = 8) (by decide) fun N op rest hN ho hq => ?_
      have e1 : (Ex.mk 5 pl ⟨#[]⟩ 0 0 a c [x]).toks = sg [45] :: parT 8 (x.kd, x.toks) := rfl
      rw [e1] at hN ⊢
      simp only [List.length_cons, Ex.depth, deepest] at hN ho
      obtain ⟨n, rfl⟩ : ∃ n, N = n + 1 := ⟨N - 1, by omega⟩
      show openT op (sg [45] :: (parT 8 (x.kd, x.toks) ++ rest)) (fun t1 => (pp n 8 (op + 1) t1).then fun a t2 => .ok (mk1 5 0 a 0 0, t2)) = _
      unfold openT
      rw [if_neg (by omega)]
      show (pp n 8 (op + 1) (parT (8 : Nat) (x.kd, x.toks) ++ rest)).then (fun a t2 => .ok (mk1 5 0 a 0 0, t2)) = _
      rw [par_ok hx sx (r := 8) (by omega) (by show 13 * (parT 8 (x.kd, x.toks)).length + 11 ≤ n + 8; omega) (by omega) hq]
      rfl
    · refine own_plain 4 (by decide : strong 6 = 4) (by decide) fun N op rest hN ho hq => ?_
      have e1 : (Ex.mk 6 pl ⟨#[]⟩ 0 0 a c [x]).toks = wd [110, 111, 116] :: parT 4 (x.kd, x.toks) := rfl
      rw [e1] at hN ⊢
      simp only [List.length_cons, Ex.depth, deepest] at hN ho
      obtain ⟨n, rfl⟩ : ∃ n, N = n + 1 := ⟨N - 1, by omega⟩
      show openT op (wd [110, 111, 116] :: (parT 4 (x.kd, x.toks) ++ rest)) (fun t1 => (pp n 4 (op + 1) t1).then fun a t2 => .ok (mk1 6 0 a 0 0, t2)) = _
      unfold openT
      rw [if_neg (by omega)]
      show (pp n 4 (op + 1) (parT (4 : Nat) (x.kd, x.toks) ++ rest)).then (fun a t2 => .ok (mk1 6 0 a 0 0, t2)) = _
      rw [par_ok hx sx (r := 4) (by omega) (by show 13 * (parT 4 (x.kd, x.toks)).length + 11 ≤ n + 4; omega) (by omega) hq]
      rfl
    · refine own_plain 8 (by decide : strong 23 = 8) (by decide) fun N op rest hN ho hq => ?_
      have e1 : (Ex.mk 23 pl ⟨#[]⟩ 0 0 a c [x]).toks = wd [116, 97, 105, 108] :: parT 8 (x.kd, x.toks) := rfl
      rw [e1] at hN ⊢
      simp only [List.length_cons, Ex.depth, deepest] at hN ho
      obtain ⟨n, rfl⟩ : ∃ n, N = n + 1 := ⟨N - 1, by omega⟩
      show openT op (wd [116, 97, 105, 108] :: (parT 8 (x.kd, x.toks) ++ rest)) (fun t1 => (pp n 8 (op + 1) t1).then fun a t2 => .ok (mk1 23 0 a 0 0, t2)) = _
      unfold openT
      rw [if_neg (by omega)]
      show (pp n 8 (op + 1) (parT (8 : Nat) (x.kd, x.toks) ++ rest)).then (fun a t2 => .ok (mk1 23 0 a 0 0, t2)) = _
      rw [par_ok hx sx (r := 8) (by omega) (by show 13 * (parT 8 (x.kd, x.toks)).length + 11 ≤ n + 8; omega) (by omega) hq]
      rfl
  · intro kd pl it a c x hk hi sx hx
    have gen : ∀ (t : Tok) (k : Int), sgOf t.text.data.toList = some (6, k) → t.text ≠ ⟨#[40]⟩ → k ≠ 26 → Ex.nop (.mk kd pl ⟨#[]⟩ it 0 a c [x]) = mk1 k 0 x.nop it 0 → (Ex.mk kd pl ⟨#[]⟩ it 0 a c [x]).toks = parT 9 (x.kd, x.toks) ++ [t, numTok it] → strong kd = 9 → ReadsOwn (.mk kd pl ⟨#[]⟩ it 0 a c [x]) := by
      intro t k hs ht hk26 hnop htoks hst
      refine own_chain 9 hst (by decide) fun N op rest hN ho hq => ?_
      rw [htoks] at hN ⊢
      simp only [List.length_append, List.length_cons, List.length_nil, Ex.depth, deepest] at hN ho ⊢
      obtain ⟨M, m1, m2, m3⟩ := par_go hx sx (r := 9) (N := N) (op := op) (rest := t :: numTok it :: rest) (by omega) (by decide) (by show 13 * (parT 9 (x.kd, x.toks)).length + 11 ≤ N + 9; omega) (by omega) (quiet_sign hs ht (by decide)) (fun _ h => quiet_sign hs ht (by have := nine_tail sx (by exact_mod_cast h); show lev 6 < _; exact this))
      have m1' : N ≤ M + 1 + (parT 9 (x.kd, x.toks)).length := m1
      obtain ⟨m, rfl⟩ : ∃ m, M = m + 1 := ⟨M - 1, by omega⟩
      refine ⟨m, by omega, by omega, ?_⟩
      rw [List.append_assoc]
      refine Eq.trans m3 ?_
      show postL (m + 1) x.nop (t :: numTok it :: rest) = postL m _ rest
      rw [post_step (k := k) (by rw [sgn_sign hs, if_pos rfl]), if_neg hk26]
      show (numT 1 (numTok it :: rest)).then _ = _
      rw [num_read hi, hnop, nop_pl]
      rfl
    rcases hk with rfl | rfl
    · exact gen (sg [42, 94]) 24 sg_up (by decide) (by decide) rfl rfl (by decide)
    · exact gen (sg [47, 94]) 25 sg_down (by decide) (by decide) rfl rfl (by decide)
  · intro pl it dn a c x hi hdn sx hx
    refine own_chain 9 (by decide : strong 26 = 9) (by decide) fun N op rest hN ho hq => ?_
    have e1 : (Ex.mk 26 pl ⟨#[]⟩ it dn a c [x]).toks = parT 9 (x.kd, x.toks) ++ [sg [126, 62], numTok it, sg [47], numTok dn] := rfl
    rw [e1] at hN ⊢
    simp only [List.length_append, List.length_cons, List.length_nil, Ex.depth, deepest] at hN ho ⊢
    obtain ⟨M, m1, m2, m3⟩ := par_go hx sx (r := 9) (N := N) (op := op) (rest := sg [126, 62] :: numTok it :: sg [47] :: numTok dn :: rest) (by omega) (by decide) (by show 13 * (parT 9 (x.kd, x.toks)).length + 11 ≤ N + 9; omega) (by omega) (quiet_sign sg_late (by decide) (by decide)) (fun _ h => quiet_sign sg_late (by decide) (by have := nine_tail sx (by exact_mod_cast h); show lev 6 < _; exact this))
    have m1' : N ≤ M + 1 + (parT 9 (x.kd, x.toks)).length := m1
    obtain ⟨m, rfl⟩ : ∃ m, M = m + 1 := ⟨M - 1, by omega⟩
    refine ⟨m, by omega, by omega, ?_⟩
    rw [List.append_assoc]
    refine Eq.trans m3 ?_
    show postL (m + 1) x.nop (sg [126, 62] :: numTok it :: sg [47] :: numTok dn :: rest) = postL m _ rest
    rw [post_step (k := 26) (by rw [sgn_sign sg_late, if_pos rfl]), if_pos rfl]
    show (((numT 0 (numTok it :: sg [47] :: numTok dn :: rest)).then fun a ts1 => if (hd ts1).text = ⟨#[47]⟩ then (numT 1 ts1.tail).then fun b ts2 => .ok ((a, b), ts2) else .ok ((a, 1), ts1)).then _) = _
    rw [num_read hi]
    show (((numT 1 (numTok dn :: rest)).then fun b ts2 => .ok ((it, b), ts2)).then _) = _
    rw [num_read hdn, nop_mk]
    show postL m (mk1 26 x.nop.pl x.nop it dn) rest = _
    rw [nop_pl]
    rfl
  · intro pl a c x y z sx sy sz hx hy hz
    refine own_plain 0 (by decide : strong 20 = 0) (by decide) fun N op rest hN ho hq => ?_
    have e1 : (Ex.mk 20 pl ⟨#[]⟩ 0 0 a c [x, y, z]).toks = wd [105, 102] :: (x.toks ++ wd [116, 104, 101, 110] :: (y.toks ++ wd [101, 108, 115, 101] :: z.toks)) := rfl
    rw [e1] at hN ⊢
    simp only [List.length_append, List.length_cons, Ex.depth, deepest] at hN ho
    obtain ⟨n, rfl⟩ : ∃ n, N = n + 1 := ⟨N - 1, by omega⟩
    have e2 : wd [105, 102] :: (x.toks ++ wd [116, 104, 101, 110] :: (y.toks ++ wd [101, 108, 115, 101] :: z.toks)) ++ rest = wd [105, 102] :: (x.toks ++ wd [116, 104, 101, 110] :: (y.toks ++ wd [101, 108, 115, 101] :: (z.toks ++ rest))) := by simp only [List.cons_append, List.append_assoc]
    rw [e2]
    have hX := hx.ok sx (r := 0) (N := n) (op := op + 1) (rest := wd [116, 104, 101, 110] :: (y.toks ++ wd [101, 108, 115, 101] :: (z.toks ++ rest))) (strong_10 _).1 (by omega) (by omega) (quiet_not wd_then (by decide) _)
    have hY := hy.ok sy (r := 0) (N := n) (op := op + 1) (rest := wd [101, 108, 115, 101] :: (z.toks ++ rest)) (strong_10 _).1 (by omega) (by omega) (quiet_not wd_else (by decide) _)
    have hZ := hz.ok sz (r := 0) (N := n) (op := op + 1) (rest := rest) (strong_10 _).1 (by omega) (by omega) hq
    show openT op (wd [105, 102] :: (x.toks ++ wd [116, 104, 101, 110] :: (y.toks ++ wd [101, 108, 115, 101] :: (z.toks ++ rest)))) (fun t1 =>
        (pp n 0 (op + 1) t1).then fun a t2 => (wantT ⟨#[116, 104, 101, 110]⟩ t2).then fun _ t3 =>
        (pp n 0 (op + 1) t3).then fun b t4 => (wantT ⟨#[101, 108, 115, 101]⟩ t4).then fun _ t5 =>
        (pp n 0 (op + 1) t5).then fun c t6 => .ok (Ex.mk 20 0 ⟨#[]⟩ 0 0 none 0 [a, b, c], t6)) = _
    unfold openT
    rw [if_neg (by omega)]
    show (pp n 0 (op + 1) (x.toks ++ wd [116, 104, 101, 110] :: (y.toks ++ wd [101, 108, 115, 101] :: (z.toks ++ rest)))).then (fun a t2 => (wantT ⟨#[116, 104, 101, 110]⟩ t2).then fun _ t3 =>
        (pp n 0 (op + 1) t3).then fun b t4 => (wantT ⟨#[101, 108, 115, 101]⟩ t4).then fun _ t5 =>
        (pp n 0 (op + 1) t5).then fun c t6 => .ok (Ex.mk 20 0 ⟨#[]⟩ 0 0 none 0 [a, b, c], t6)) = _
    rw [hX]
    show (pp n 0 (op + 1) (y.toks ++ wd [101, 108, 115, 101] :: (z.toks ++ rest))).then (fun b t4 => (wantT ⟨#[101, 108, 115, 101]⟩ t4).then fun _ t5 =>
        (pp n 0 (op + 1) t5).then fun c t6 => .ok (Ex.mk 20 0 ⟨#[]⟩ 0 0 none 0 [x.nop, b, c], t6)) = _
    rw [hY]
    show (pp n 0 (op + 1) (z.toks ++ rest)).then (fun c t6 => .ok (Ex.mk 20 0 ⟨#[]⟩ 0 0 none 0 [x.nop, y.nop, c], t6)) = _
    rw [hZ, nop_mk]
    rfl
  · intro kd pl a c x y hk sx sy hx hy
    obtain ⟨k, rfl⟩ : ∃ k : Nat, kd = k := ⟨kd.toNat, by unfold isTwo at hk; omega⟩
    have hk27 : k < 27 := by unfold isTwo at hk; omega
    obtain ⟨s1, s2, s3, s4⟩ := sign_facts k hk27 hk
    obtain ⟨t1, t2, t3, t4⟩ := two_kinds k hk27 hk
    obtain ⟨v1, v2, v3, v5, v6, v7⟩ := rule_kinds k hk27 hk
    have hnop : Ex.nop (.mk k pl ⟨#[]⟩ 0 0 a c [x, y]) = mk2 k x.nop y.nop := by
      unfold mk2
      rw [nop_mk, nop_pl]
      rfl
    have htoks := two_toks (pl := pl) (nm := ⟨#[]⟩) (it := 0) (dn := 0) (a := a) (cap := c) (x := x) (y := y) hk
    have chain : ∀ (s : Nat) (rule : Int), (s : Int) = strong k → ruleOf k = rule → s ≤ 7 → chainy (s : Int) → (∀ P M op e ts, cont P M s op e ts = chainL (pp P (s + 1) op) rule M e ts) → ReadsOwn (.mk k pl ⟨#[]⟩ 0 0 a c [x, y]) := by
      intro s rule hs hrule hs7 hc hcont
      obtain ⟨f1, f2⟩ := t4 (fun h => by rw [h] at hs; obtain rfl : s = 1 := by omega
                                         exact absurd hc (by decide)) (fun h => by rw [h] at hs; obtain rfl : s = 5 := by omega
                                                                                   exact absurd hc (by decide))
      have g2 : secondOf (k : Int) = ((s + 1 : Nat) : Int) := by omega
      rw [f1, ← hs, g2] at htoks
      refine own_chain s hs.symm hc fun N op rest hN ho hq => ?_
      have hq : Quiet ((s + 1 : Nat) : Int) rest := by have := hq; simp only at this; rw [t1, g2] at this; exact this
      rw [htoks] at hN ⊢
      simp only [List.length_append, List.length_cons, Ex.depth, deepest] at hN ho ⊢
      obtain ⟨M, m1, m2, m3⟩ := par_go hx sx (r := s) (N := N) (op := op) (rest := signTok' k :: (parT ((s + 1 : Nat) : Int) (y.kd, y.toks) ++ rest)) (by omega) hc (by omega) (by omega) (quiet_sign s1 s2 (by omega)) (fun h1 h => quiet_sign s1 s2 (by
        obtain ⟨q, q1, q2, -⟩ := kind_of sx
        rw [q2] at h1 ⊢
        have := two_nat k hk27 q q1 hk (by omega)
        omega))
      obtain ⟨m, rfl⟩ : ∃ m, M = m + 1 := ⟨M - 1, by omega⟩
      refine ⟨m, by omega, by omega, ?_⟩
      rw [List.append_assoc]
      refine Eq.trans m3 ?_
      rw [hcont, hcont]
      show chainL (pp (N - 1) (s + 1) op) rule (m + 1) x.nop (signTok' k :: (parT ((s + 1 : Nat) : Int) (y.kd, y.toks) ++ rest)) = _
      rw [chain_step (k := k) (by rw [sgn_sign s1, if_pos hrule])]
      show (pp (N - 1) (s + 1) op (parT ((s + 1 : Nat) : Int) (y.kd, y.toks) ++ rest)).then _ = _
      rw [par_ok hy sy (r := s + 1) (by omega) (by omega) (by omega) hq, hnop]
      rfl
    rcases s4 with h | h | h | h | h | h
    · obtain ⟨f1, f2⟩ := t2 h
      rw [f1, f2] at htoks
      have hr0 := v1 h
      refine own_plain 1 h (by decide) fun N op rest hN ho hq => ?_
      have hq : Quiet (1 : Nat) rest := by have := hq; simp only at this; rw [t1, f2] at this; exact this
      rw [htoks] at hN ⊢
      simp only [List.length_append, List.length_cons, Ex.depth, deepest] at hN ho
      obtain ⟨n, rfl⟩ : ∃ n, N = n + 1 := ⟨N - 1, by omega⟩
      rw [List.append_assoc]
      have hX := par_ok hx sx (r := 2) (N := n) (op := op) (rest := signTok' k :: (parT 1 (y.kd, y.toks) ++ rest)) (by omega) (by show 13 * (parT 2 (x.kd, x.toks)).length + 11 ≤ n + 2; omega) (by omega) (quiet_sign s1 s2 (by omega))
      have hY := par_ok hy sy (r := 1) (N := n) (op := op + 1) (rest := rest) (by omega) (by show 13 * (parT 1 (y.kd, y.toks)).length + 11 ≤ n + 1; omega) (by omega) hq
      show (pp n 2 op (parT (2 : Nat) (x.kd, x.toks) ++ signTok' k :: (parT 1 (y.kd, y.toks) ++ rest))).then (fun a t1 => match sgn 0 t1 with
        | none => .ok (a, t1)
        | some k => openT op t1 fun t2 => (pp n 1 (op + 1) t2).then fun b t3 => .ok (mk2 k a b, t3)) = _
      rw [hX]
      show (match sgn 0 (signTok' k :: (parT 1 (y.kd, y.toks) ++ rest)) with
        | none => Except.ok (x.nop, signTok' k :: (parT 1 (y.kd, y.toks) ++ rest))
        | some k' => openT op (signTok' k :: (parT 1 (y.kd, y.toks) ++ rest)) fun t2 => (pp n 1 (op + 1) t2).then fun b t3 => .ok (mk2 k' x.nop b, t3)) = _
      rw [sgn_sign s1, if_pos hr0]
      simp only
      unfold openT
      rw [if_neg (by omega)]
      show (pp n 1 (op + 1) (parT (1 : Nat) (y.kd, y.toks) ++ rest)).then (fun b t3 => .ok (mk2 k x.nop b, t3)) = _
      rw [hY, hnop]
      rfl
    · exact chain 2 1 (by omega) (by
        unfold isTwo at hk
        unfold ruleOf
        unfold strong at h
        repeat' split at h
        all_goals (first | omega | (rw [if_neg (by omega), if_pos (by omega)]))) (by omega) (by decide) fun _ _ _ _ _ => rfl
    · exact chain 3 2 (by omega) (by
        unfold isTwo at hk
        unfold ruleOf
        unfold strong at h
        repeat' split at h
        all_goals (first | omega | (rw [if_neg (by omega), if_neg (by omega), if_pos (by omega)]))) (by omega) (by decide) fun _ _ _ _ _ => rfl
    · obtain ⟨f1, f2⟩ := t3 h
      rw [f1, f2] at htoks
      have hr3 := v5 h
      refine own_plain 5 h (by decide) fun N op rest hN ho hq => ?_
      have hq : Quiet (6 : Nat) rest := by have := hq; simp only at this; rw [t1, f2] at this; exact this
      rw [htoks] at hN ⊢
      simp only [List.length_append, List.length_cons, Ex.depth, deepest] at hN ho
      obtain ⟨n, rfl⟩ : ∃ n, N = n + 1 := ⟨N - 1, by omega⟩
      rw [List.append_assoc]
      have hX := par_ok hx sx (r := 6) (N := n) (op := op) (rest := signTok' k :: (parT 6 (y.kd, y.toks) ++ rest)) (by omega) (by show 13 * (parT 6 (x.kd, x.toks)).length + 11 ≤ n + 6; omega) (by omega) (quiet_sign s1 s2 (by omega))
      have hY := par_ok hy sy (r := 6) (N := n) (op := op) (rest := rest) (by omega) (by show 13 * (parT 6 (y.kd, y.toks)).length + 11 ≤ n + 6; omega) (by omega) hq
      show (pp n 6 op (parT (6 : Nat) (x.kd, x.toks) ++ signTok' k :: (parT 6 (y.kd, y.toks) ++ rest))).then (fun a t1 => match sgn 3 t1 with
        | none => .ok (a, t1)
        | some k => (pp n 6 op t1.tail).then fun b t2 => .ok (mk2 k a b, t2)) = _
      rw [hX]
      show (match sgn 3 (signTok' k :: (parT 6 (y.kd, y.toks) ++ rest)) with
        | none => Except.ok (x.nop, signTok' k :: (parT 6 (y.kd, y.toks) ++ rest))
        | some k' => (pp n 6 op (parT (6 : Nat) (y.kd, y.toks) ++ rest)).then fun b t2 => .ok (mk2 k' x.nop b, t2)) = _
      rw [sgn_sign s1, if_pos hr3]
      simp only
      rw [hY, hnop]
      rfl
    · exact chain 6 4 (by omega) (by
        unfold isTwo at hk
        unfold ruleOf
        unfold strong at h
        repeat' split at h
        all_goals (first | omega | (rw [if_neg (by omega), if_neg (by omega), if_neg (by omega), if_neg (by omega), if_pos (by omega)]))) (by omega) (by decide) fun _ _ _ _ _ => rfl
    · exact chain 7 5 (by omega) (by
        unfold isTwo at hk
        unfold ruleOf
        unfold strong at h
        repeat' split at h
        all_goals (first | omega | (rw [if_neg (by omega), if_neg (by omega), if_neg (by omega), if_neg (by omega), if_neg (by omega), if_pos (by omega)]))) (by omega) (by decide) fun _ _ _ _ _ => rfl
def tyTok(t:Int):Tok:=if t=2 then wd [98,111,111,108] else wd [105,110,116]
def rateToks(r:Bool)(p s:Int):List Tok:=if r=true then [wd [114,97,116,101],sg [40],numTok p,sg [44],numTok s,sg [41]] else []
def dueToks(d:Int):List Tok:=if 0<d then [wd [100,117,101],numTok d] else []
def Pm.toks(p:Pm):List Tok:=nmTok p.nm::sg [58]::tyTok p.ty::(rateToks p.rt p.pd p.st++dueToks p.du)
def pmsToks(l:List Pm):List Tok:=betweenT (sg [59]) (l.map Pm.toks)
def nmsToks(ns:List ByteArray):List Tok:=betweenT (sg [44]) (ns.map fun n=>[nmTok n])
def leftToks(ns:List ByteArray):List Tok:=if ns.length=1 then nmsToks ns else sg [40]::(nmsToks ns++[sg [41]])
def Eqn.toks(q:Eqn):List Tok:=leftToks q.ns++sg [61]::(q.e.toks++[sg [59]])
def eqsToks(l:List Eqn):List Tok:=(l.map Eqn.toks).flatten
def varsToks(l:List Pm):List Tok:=if l=[] then [] else wd [118,97,114]::(pmsToks l++[sg [59]])
def Nd.toks(n:Nd):List Tok:=(if n.fl=true then wd [102,108,111,119] else wd [110,111,100,101])::nmTok n.nm::sg [40]::(pmsToks n.ins++sg [41]::wd [114,101,116,117,114,110,115]::sg [40]::(pmsToks n.outs++sg [41]::(varsToks n.vars++wd [108,101,116]::(eqsToks n.eqs++[wd [116,101,108]]))))
def ndsToks(l:List Nd):List Tok:=(l.map Nd.toks).flatten
theorem pm_nums{p:Pm}{a b:Bool}(h:pmsB a b p=true):nameB p.nm=true∧(p.ty=1∨p.ty=2)∧0≤p.du∧(p.rt=true→1≤p.pd∧0≤p.st)∧(p.rt=false→p.pd=0∧p.st=0)∧(a=false→p.rt=false)∧(b=false→p.du=0):=by
 simp only[pmsB,pmB,pmNums,Bool.and_eq_true,Bool.or_eq_true,beq_iff_eq,decide_eq_true_eq] at h
 obtain⟨⟨⟨h1,⟨h2,h3⟩,h4⟩,h5⟩,h6⟩:=h
 refine⟨h1,h2,h3,fun hr=>?_,fun hr=>?_,fun ha=>?_,fun hb=>?_⟩
 ·rw[if_pos hr] at h4;simpa using h4
 ·rw[if_neg (by rw[hr];decide)] at h4;simpa using h4
 ·subst ha;cases hp:p.rt
  ·rfl
  ·rw[hp] at h5;exact absurd h5 (by decide)
 ·subst hb
  have:¬0<p.du:=by
   intro h
   have:decide (0<p.du)=true:=by simpa using h
   rw[this] at h6
   exact absurd h6 (by decide)
  omega
theorem kind_lex(t:Int):Lx Brk (kindText t) [tyTok t]:=by
 unfold kindText tyTok
 split
 ·exact lx_word [98,111,111,108] _ _ rfl (by decide) (by decide) (by decide) (by decide)
 ·exact lx_word [105,110,116] _ _ rfl (by decide) (by decide) (by decide) (by decide)
theorem rate_lex{r:Bool}{p s:Int}(hp:r=true→0≤p∧p≤9223372036854775807)(hs:r=true→0≤s∧s≤9223372036854775807):Lx Brk (rateText r p s) (rateToks r p s):=by
 unfold rateText rateToks
 by_cases h:r=true
 ·rw[if_pos h,if_pos h]
  have h1:Lx Any [32,114,97,116,101,32] [wd [114,97,116,101]]:=lx_wordB [114,97,116,101] _ _ rfl (by decide) (by decide) (by decide) (by decide)
  have h2:=Lx.app (Lx.app (Lx.app (Lx.app (Lx.app h1 lx_open fun _ _=>trivial) (num_lex (hp h).1 (hp h).2) fun _ _=>trivial) lx_commaB fun post _=>brk_c _ (by decide)) (num_lex (hs h).1 (hs h).2) fun _ _=>trivial) lx_shut fun post _=>brk_c _ (by decide)
  simp only[List.append_assoc,List.cons_append,List.nil_append] at h2 ⊢
  exact h2.mono fun _ _=>trivial
 ·rw[if_neg h,if_neg h]
  exact Lx.nil _
theorem due_lex{d:Int}(h1:d≤9223372036854775807):Lx Brk (dueText d) (dueToks d):=by
 unfold dueText dueToks
 by_cases h:0<d
 ·rw[if_pos h,if_pos h]
  have h2:Lx Any [32,100,117,101,32] [wd [100,117,101]]:=lx_wordB [100,117,101] _ _ rfl (by decide) (by decide) (by decide) (by decide)
  exact Lx.app h2 (num_lex (by omega) h1) fun _ _=>trivial
 ·rw[if_neg h,if_neg h]
  exact Lx.nil _
theorem due_brk(d:Int)(post:List UInt8)(hp:Brk post):Brk (dueText d++post):=by
 unfold dueText
 split
 ·exact blank_brk _
 ·exact hp
theorem rate_brk(r:Bool)(p s:Int)(post:List UInt8)(hp:Brk post):Brk (rateText r p s++post):=by
 unfold rateText
 split
 ·exact blank_brk _
 ·exact hp
theorem pm_lex{p:Pm}{a b:Bool}(h:pmsB a b p=true)(hw:p.wf):Lx Brk p.text p.toks:=by
 obtain⟨h1,h2,h3,h4,h5,-,-⟩:=pm_nums h
 have b1:=bounds_i64 hw.1
 have b2:=bounds_i64 hw.2.1
 have b3:=bounds_i64 hw.2.2
 have k1:Lx Any [58,32] [sg [58]]:=Lx.app lx_colon lx_blank fun post _=>⟨post,rfl⟩
 rw[pm_text]
 have h6:=Lx.app (Lx.app (name_lex h1) (Lx.app k1 (kind_lex p.ty) fun _ _=>trivial) fun post _=>brk_c _ (by decide)) (Lx.app (rate_lex (r:=p.rt) (p:=p.pd) (s:=p.st) (fun hr=>by have:=h4 hr;omega) fun hr=>by have:=h4 hr;omega) (due_lex (d:=p.du) (by omega)) fun post hp=>due_brk _ _ hp) fun post hp=>by
  rw[List.append_assoc]
  exact rate_brk _ _ _ _ (due_brk _ _ hp)
 exact h6
theorem pms_lex{l:List Pm}{a b:Bool}(h:l.all (pmsB a b)=true)(hw:∀p∈l,p.wf):Lx Brk (pmsText l) (pmsToks l) :=
 between_lex [59,32] (sg [59]) 59 [32] rfl (by decide) (Lx.app lx_semi lx_blank fun _ _=>trivial) Pm.text Pm.toks l fun p hp=>pm_lex (List.all_eq_true.1 h p hp) (hw p hp)
theorem left_lex{ns:List ByteArray}(h:ns.all nameB=true):Lx Brk (leftOf ns) (leftToks ns):=by
 have hb:Lx Brk (between [44,32] (ns.map (·.data.toList))) (nmsToks ns):=between_lex [44,32] (sg [44]) 44 [32] rfl (by decide) lx_commaB (fun n:ByteArray=>n.data.toList) (fun n=>[nmTok n]) ns fun n hn=>name_lex (List.all_eq_true.1 h n hn)
 unfold leftOf leftToks
 split
 ·exact hb
 ·have h1:=Lx.app (Lx.app lx_open hb fun _ _=>trivial) lx_shut fun post _=>brk_c _ (by decide)
  exact h1.mono fun _ _=>trivial
theorem eq_lex{q:Eqn}(h:eqB q=true)(hg:q.e.good):Lx Any q.text q.toks:=by
 simp only[eqB,Bool.and_eq_true,decide_eq_true_eq] at h
 obtain⟨⟨-,h2⟩,h3⟩:=h
 have k1:Lx Any [32,32] []:=Lx.app lx_blank lx_blank fun _ _=>trivial
 have k2:Lx Any [32,61,32] [sg [61]]:=lx_sign [61] _ _ rfl (by decide) (by decide) (by decide) (fun _=>rfl) (Or.inl (by decide))
 have k3:Lx Any [59,10] [sg [59]]:=Lx.app lx_semi lx_line fun _ _=>trivial
 rw[eqn_text]
 have h4:=Lx.app (Lx.app k1 (Lx.app (left_lex h2) k2 fun post _=>blank_brk _) fun _ _=>trivial) (Lx.app (text_lex q.e h3 hg) k3 fun post _=>brk_c _ (by decide)) fun _ _=>trivial
 simp only[List.append_assoc,List.nil_append] at h4
 unfold Eqn.toks
 simp only[List.append_assoc]
 exact h4
theorem eqs_lex{l:List Eqn}(h:∀q∈l,eqB q=true∧q.e.good):Lx Any (eqsText l) (eqsToks l):=by
 induction l with
 | nil=>exact Lx.nil _
 | cons q r ih =>
  have h1:=ih fun x hx=>h x (List.mem_cons_of_mem _ hx)
  obtain⟨h2,h3⟩:=h q (List.mem_cons_self ..)
  exact Lx.app (eq_lex h2 h3) h1 fun _ _=>trivial
theorem vars_lex{l:List Pm}{a b:Bool}(h:l.all (pmsB a b)=true)(hw:∀p∈l,p.wf):Lx Any (if l=[] then [] else [118,97,114,32]++pmsText l++[59,10]) (varsToks l):=by
 unfold varsToks
 by_cases hl:l=[]
 ·rw[if_pos hl,if_pos hl];exact Lx.nil _
 ·rw[if_neg hl,if_neg hl]
  have k1:Lx Any ([118,97,114]++[32]) [wd [118,97,114]]:=lx_kw [118,97,114] _ _ rfl (by decide) (by decide) (by decide) (by decide)
  have k3:Lx Any [59,10] [sg [59]]:=Lx.app lx_semi lx_line fun _ _=>trivial
  have h1:=Lx.app (Lx.app k1 (pms_lex h hw) fun _ _=>trivial) k3 fun post _=>brk_c _ (by decide)
  simp only[List.cons_append,List.nil_append] at h1 ⊢
  exact h1
theorem nd_lex{n:Nd}(h:ndB n=true)(hm:n.nums)(hg:n.good):Lx Any n.text n.toks:=by
 simp only[ndB,Bool.and_eq_true] at h
 obtain⟨⟨b0,⟨b1,b2⟩,b3⟩,b4⟩:=h
 have k0:Lx Any (if n.fl=true then [102,108,111,119,32] else [110,111,100,101,32]) [if n.fl=true then wd [102,108,111,119] else wd [110,111,100,101]]:=by
  split
  ·exact lx_kw [102,108,111,119] _ _ rfl (by decide) (by decide) (by decide) (by decide)
  ·exact lx_kw [110,111,100,101] _ _ rfl (by decide) (by decide) (by decide) (by decide)
 have k1:Lx Any [41,32,114,101,116,117,114,110,115,32,40] [sg [41],wd [114,101,116,117,114,110,115],sg [40]] :=
  Lx.app lx_shut (Lx.app (lx_wordB [114,101,116,117,114,110,115] _ _ rfl (by decide) (by decide) (by decide) (by decide)) lx_open fun _ _=>trivial) fun _ _=>trivial
 have k2:Lx Any [41,10] [sg [41]]:=Lx.app lx_shut lx_line fun _ _=>trivial
 have k3:Lx Any [108,101,116,10] [wd [108,101,116]]:=Lx.app (lx_word [108,101,116] _ _ rfl (by decide) (by decide) (by decide) (by decide)) lx_line fun post _=>brk_c _ (by decide)
 have k4:Lx Any [116,101,108,10] [wd [116,101,108]]:=Lx.app (lx_word [116,101,108] _ _ rfl (by decide) (by decide) (by decide) (by decide)) lx_line fun post _=>brk_c _ (by decide)
 have hq:=eqs_lex (l:=n.eqs) fun q hq=>⟨List.all_eq_true.1 b4 q hq,(hg.2.2.2.2.2.2.2.2 q hq).2.2.1⟩
 have h1:=Lx.app (Lx.app (Lx.app (Lx.app (Lx.app (Lx.app (Lx.app (Lx.app (Lx.app (Lx.app k0 (name_lex b0) fun _ _=>trivial) lx_open fun post _=>brk_c _ (by decide)) (pms_lex b1 hm.1) fun _ _=>trivial) k1 fun post _=>brk_c _ (by decide)) (pms_lex b2 hm.2.1) fun _ _=>trivial) k2 fun post _=>brk_c _ (by decide)) (vars_lex b3 hm.2.2.1) fun _ _=>trivial) k3 fun _ _=>trivial) hq fun _ _=>trivial) k4 fun _ _=>trivial
 unfold Nd.text Nd.toks
 simp only[List.append_assoc,List.cons_append,List.nil_append] at h1 ⊢
 exact h1
theorem nds_lex{l:List Nd}(h:∀n∈l,ndB n=true∧n.nums∧n.good):Lx Any (ndsText l) (ndsToks l):=by
 induction l with
 | nil=>exact Lx.nil _
 | cons n r ih =>
  have h1:=ih fun x hx=>h x (List.mem_cons_of_mem _ hx)
  obtain⟨h2,h3,h4⟩:=h n (List.mem_cons_self ..)
  exact Lx.app (nd_lex h2 h3 h4) h1 fun _ _=>trivial
theorem list_read{α β:Type}{part:List Tok→PR α}{sep:Tok}{tl:List Tok}(f:β→List Tok)(g:β→α)(ht:(hd tl).text≠sep.text):∀(l:List β)(acc:List α)(m:Nat),(∀x∈l,∀r,hd r=sep∨r=tl→part (f x++r)=.ok (g x,r))→l.length+1≤m →
  listL part sep.text m acc (restsT sep (l.map f)++tl)=.ok (acc++l.map g,tl)
 | [],acc,m,_,hm=>by
  obtain⟨k,rfl⟩:∃k,m=k+1:=⟨m-1,by simp only[List.length_nil] at hm;omega⟩
  show(if (hd tl).text=sep.text then _ else Except.ok (acc,tl))=_
  rw[if_neg ht,List.map_nil,List.append_nil]
 | x::l,acc,m,hx,hm=>by
  obtain⟨k,rfl⟩:∃k,m=k+1:=⟨m-1,by simp only[List.length_cons] at hm;omega⟩
  have ih:=list_read f g ht l (acc++[g x]) k (fun y hy=>hx y (List.mem_cons_of_mem _ hy)) (by simp only[List.length_cons] at hm;omega)
  have e1:restsT sep ((x::l).map f)++tl=sep::(f x++(restsT sep (l.map f)++tl)):=by simp only[List.map_cons,restsT,List.cons_append,List.append_assoc]
  rw[e1]
  show(if sep.text=sep.text then (part (f x++(restsT sep (l.map f)++tl))).then fun e ts1=>listL part sep.text k (acc++[e]) ts1 else _)=_
  rw[if_pos rfl,hx x (List.mem_cons_self ..) _ (by cases l with|nil=>exact Or.inr rfl|cons y r=>exact Or.inl rfl)]
  show listL part sep.text k (acc++[g x]) _=_
  rw[ih,List.map_cons,List.append_assoc]
  rfl
theorem listT_read{α β:Type}{part:List Tok→PR α}{sep:Tok}{tl:List Tok}(f:β→List Tok)(g:β→α)(ht:(hd tl).text≠sep.text)(l:List β)(h0:l≠[])(n:Nat)(hx:∀x∈l,∀r,hd r=sep∨r=tl→part (f x++r)=.ok (g x,r))(hn:l.length≤n) :
  listT part sep.text n (betweenT sep (l.map f)++tl)=.ok (l.map g,tl):=by
 cases l with
 | nil=>exact absurd rfl h0
 | cons x r =>
  have e1:betweenT sep ((x::r).map f)++tl=f x++(restsT sep (r.map f)++tl):=by simp only[List.map_cons,betweenT,List.append_assoc]
  unfold listT
  rw[e1,hx x (List.mem_cons_self ..) _ (by cases r with|nil=>exact Or.inr rfl|cons y r=>exact Or.inl rfl)]
  show listL part sep.text n [g x] _=_
  rw[list_read f g ht r [g x] n (fun y hy=>hx y (List.mem_cons_of_mem _ hy)) (by simp only[List.length_cons] at hn;omega)]
  rfl
theorem param_read{nm:ByteArray}{ty:Int}(ht:ty=1∨ty=2)(ts:List Tok):paramT (nmTok nm::sg [58]::tyTok ty::ts)=.ok (⟨nm,ty,0,false,0,0,0⟩,ts):=by
 rcases ht with rfl|rfl
 ·rfl
 ·rfl
theorem plain_read{p:Pm}(h:pmsB false false p=true)(r:List Tok):paramT (p.toks++r)=.ok (p.nop,r):=by
 obtain⟨h1,h2,h3,h4,h5,h6,h7⟩:=pm_nums h
 have hr:=h6 rfl
 have hd:=h7 rfl
 obtain⟨e1,e2⟩:=h5 hr
 obtain⟨nm,ty,pl,rt,pd,st,du⟩:=p
 simp only at hr hd e1 e2 h2
 subst hr hd e1 e2
 exact param_read h2 r
theorem in_read{p:Pm}(h:pmsB true false p=true)(r:List Tok)(hr:(hd r).text≠⟨#[114,97,116,101]⟩):inT (p.toks++r)=.ok (p.nop,r):=by
 obtain⟨h1,h2,h3,h4,h5,-,h7⟩:=pm_nums h
 have hd0:=h7 rfl
 obtain⟨nm,ty,pl,rt,pd,st,du⟩:=p
 simp only at hd0 h2 h4 h5
 subst hd0
 cases rt with
 | false =>
  obtain⟨rfl,rfl⟩:=h5 rfl
  unfold inT
  show(paramT (nmTok nm::sg [58]::tyTok ty::r)).then _=_
  rw[param_read h2]
  show(if (hd r).text=⟨#[114,97,116,101]⟩ then _ else Except.ok ((⟨nm,ty,0,false,0,0,0⟩:Pm),r))=_
  rw[if_neg hr]
  rfl
 | true =>
  obtain⟨g1,g2⟩:=h4 rfl
  unfold inT
  show(paramT (nmTok nm::sg [58]::tyTok ty::(wd [114,97,116,101]::sg [40]::numTok pd::sg [44]::numTok st::sg [41]::r))).then _=_
  rw[param_read h2]
  show(numT 1 (numTok pd::sg [44]::numTok st::sg [41]::r)).then _=_
  rw[num_read g1]
  show(numT 0 (numTok st::sg [41]::r)).then _=_
  rw[num_read g2]
  rfl
theorem out_read{p:Pm}(h:pmsB false true p=true)(r:List Tok)(hr:(hd r).text≠⟨#[100,117,101]⟩):outT (p.toks++r)=.ok (p.nop,r):=by
 obtain⟨h1,h2,h3,h4,h5,h6,-⟩:=pm_nums h
 have hr0:=h6 rfl
 obtain⟨e1,e2⟩:=h5 hr0
 obtain⟨nm,ty,pl,rt,pd,st,du⟩:=p
 simp only at hr0 h2 h3 e1 e2
 subst hr0 e1 e2
 unfold outT
 by_cases hd0:0<du
 ·have e3:Pm.toks ⟨nm,ty,pl,false,0,0,du⟩++r=nmTok nm::sg [58]::tyTok ty::(wd [100,117,101]::numTok du::r):=by
   unfold Pm.toks dueToks
   rw[if_pos hd0]
   rfl
  rw[e3,param_read h2]
  show(numT 1 (numTok du::r)).then _=_
  rw[num_read (by omega)]
  rfl
 ·obtain rfl:du=0:=by omega
  have e3:Pm.toks ⟨nm,ty,pl,false,0,0,0⟩++r=nmTok nm::sg [58]::tyTok ty::r:=rfl
  rw[e3,param_read h2]
  show(if (hd r).text=⟨#[100,117,101]⟩ then _ else Except.ok ((⟨nm,ty,0,false,0,0,0⟩:Pm),r))=_
  rw[if_neg hr]
  rfl
def ReadsPm(one:List Tok→PR Pm)(p:Pm):Prop:=∀r,(hd r=sg [59]∨hd r=sg [41])→one (p.toks++r)=.ok (p.nop,r)
theorem reads_in{fl:Bool}{p:Pm}(h:pmsB fl false p=true):ReadsPm (inOf fl) p:=fun r hr=>by
 cases fl with
 | false=>exact plain_read h r
 | true=>exact in_read h r (by rcases hr with hr|hr<;>rw[hr]<;>decide)
theorem reads_out{fl:Bool}{p:Pm}(h:pmsB false fl p=true):ReadsPm (outOf' fl) p:=fun r hr=>by
 cases fl with
 | false=>exact plain_read h r
 | true=>exact out_read h r (by rcases hr with hr|hr<;>rw[hr]<;>decide)
theorem name_ne{nm:ByteArray}(h:nameB nm=true)(l:List UInt8)(hl:l∈wordList∨∃c∈l,wordy c=false):nm≠⟨l.toArray⟩:=by
 obtain⟨-,h2,-,h4⟩:=name_bytes h
 rintro rfl
 rcases hl with hl|⟨c,hc,hw⟩
 ·exact h4 (by simpa using hl)
 ·have:=h2 c (by simpa using hc)
  rw[hw] at this
  exact absurd this (by decide)
theorem params_read{one:List Tok→PR Pm}{l:List Pm}(h:∀p∈l,nameB p.nm=true∧ReadsPm one p)(n:Nat)(hn:l.length≤n)(r:List Tok):paramsT one n (sg [40]::(pmsToks l++sg [41]::r))=.ok (l.map Pm.nop,r):=by
 unfold paramsT
 show(if (hd (pmsToks l++sg [41]::r)).text=⟨#[41]⟩ then Except.ok ([],(pmsToks l++sg [41]::r).tail) else (listT one ⟨#[59]⟩ n (pmsToks l++sg [41]::r)).then fun l t2=>(wantT ⟨#[41]⟩ t2).then fun _ t3=>.ok (l,t3))=_
 cases l with
 | nil=>rfl
 | cons p l =>
  rw[if_neg]
  ·have := listT_read (part := one) (sep := sg [59]) (tl := sg [41] :: r) Pm.toks Pm.nop (by decide : (sg [41]).text ≠ (sg [59]).text) (p :: l) (by simp) n (fun x hx q hq => (h x hx).2 q (hq.imp id fun e => by rw [e]; rfl)) hn
   show(listT one (sg [59]).text n (pmsToks (p::l)++sg [41]::r)).then _=_
   unfold pmsToks
   rw[this]
   rfl
  ·show p.nm≠⟨#[41]⟩
   exact name_ne (h p (List.mem_cons_self ..)).1 [41] (Or.inr ⟨41,by simp,by decide⟩)
theorem rests_flat(sep:Tok)(l:List (List Tok)):restsT sep l++[sep]=sep::(l.map (·++[sep])).flatten:=by
 induction l with
 | nil=>rfl
 | cons x r ih=>simp only[restsT,List.cons_append,List.append_assoc,ih,List.map_cons,List.flatten_cons,List.nil_append]
theorem between_flat(sep:Tok)(l:List (List Tok))(h:l≠[]):betweenT sep l++[sep]=(l.map (·++[sep])).flatten:=by
 cases l with
 | nil=>exact absurd rfl h
 | cons x r=>simp only[betweenT,List.append_assoc,rests_flat,List.map_cons,List.flatten_cons,List.cons_append,List.nil_append]
theorem varsL_read{r:List Tok}(hr:(hd r).text=⟨#[108,101,116]⟩):∀(l acc:List Pm)(m:Nat),(∀p∈l,pmsB false false p=true)→(l=[]→acc≠[])→l.length+1≤m→varsL m acc (((l.map Pm.toks).map (·++[sg [59]])).flatten++r)=.ok (acc++l.map Pm.nop,r)
 | [],acc,m,_,h0,hm=>by
  obtain⟨k,rfl⟩:∃k,m=k+1:=⟨m-1,by simp only[List.length_nil] at hm;omega⟩
  show(if acc≠[]∧(hd r).text=⟨#[108,101,116]⟩ then Except.ok (acc,r) else _)=_
  rw[if_pos ⟨h0 rfl,hr⟩,List.map_nil,List.append_nil]
 | p::l,acc,m,h,_,hm=>by
  obtain⟨k,rfl⟩:∃k,m=k+1:=⟨m-1,by simp only[List.length_cons] at hm;omega⟩
  have hp:=h p (List.mem_cons_self ..)
  have ih:=varsL_read hr l (acc++[p.nop]) k (fun x hx=>h x (List.mem_cons_of_mem _ hx)) (fun _=>by simp) (by simp only[List.length_cons] at hm;omega)
  have e1:((((p::l).map Pm.toks).map (·++[sg [59]])).flatten++r)=p.toks++(sg [59]::((((l.map Pm.toks).map (·++[sg [59]])).flatten)++r)):=by simp only[List.map_cons,List.flatten_cons,List.append_assoc,List.cons_append,List.nil_append]
  rw[e1,varsL,if_neg]
  ·rw[plain_read hp]
   refine Eq.trans ih ?_
   rw[List.map_cons,List.append_assoc]
   rfl
  ·rintro⟨-,h2⟩
   exact name_ne (pm_nums hp).1 [108,101,116] (Or.inl (by decide)) h2
theorem vars_read{l:List Pm}(h:∀p∈l,pmsB false false p=true)(n:Nat)(hn:l.length+1≤n)(r:List Tok):varsT n (varsToks l++wd [108,101,116]::r)=.ok (l.map Pm.nop,wd [108,101,116]::r):=by
 unfold varsToks varsT
 by_cases hl:l=[]
 ·rw[if_pos hl,hl]
  rfl
 ·rw[if_neg hl]
  have e1:wd [118,97,114]::(pmsToks l++[sg [59]])++wd [108,101,116]::r=wd [118,97,114]::((((l.map Pm.toks).map (·++[sg [59]])).flatten)++wd [108,101,116]::r):=by
   unfold pmsToks
   rw[between_flat _ _ (by simpa using hl),List.cons_append]
  rw[e1]
  show(if (wd [118,97,114]).text=⟨#[118,97,114]⟩ then varsL n [] _ else _)=_
  rw[if_pos (by decide)]
  exact varsL_read rfl l [] n h (fun e=>absurd e hl) hn
theorem flat_mem{α:Type}{l:List (List α)}{x:List α}(h:x∈l):x.length≤l.flatten.length:=by
 induction l with
 | nil=>cases h
 | cons y r ih =>
  simp only[List.flatten_cons,List.length_append]
  rcases List.mem_cons.1 h with rfl|h
  ·omega
  ·have:=ih h;omega
theorem flat_many{α β:Type}{l:List β}{f:β→List α}(h:∀x∈l,1≤(f x).length):l.length≤(l.map f).flatten.length:=by
 induction l with
 | nil=>simp
 | cons y r ih =>
  have h1:=ih fun x hx=>h x (List.mem_cons_of_mem _ hx)
  have h2:=h y (List.mem_cons_self ..)
  simp only[List.map_cons,List.flatten_cons,List.length_append,List.length_cons]
  omega
theorem between_many{β:Type}{sep:Tok}{l:List β}{f:β→List Tok}(h:∀x∈l,1≤(f x).length):l.length≤(betweenT sep (l.map f)).length:=by
 cases l with
 | nil=>simp[betweenT]
 | cons y r =>
  have h1:=rests_many sep (r.map f)
  have h2:=h y (List.mem_cons_self ..)
  rw[List.length_map] at h1
  simp only[List.map_cons,betweenT,List.length_append,List.length_cons]
  omega
theorem eqR_read{e:Ex}(hsh:e.shape=true){n op:Nat}(hn:13*e.toks.length+11≤n)(ho:op+2*e.depth≤200)(ns:List ByteArray)(r:List Tok):eqR n op 0 ns (sg [61]::(e.toks++sg [59]::r))=.ok (⟨none,0,ns,0,e.nop⟩,r):=by
 unfold eqR
 show(pp n 0 op (e.toks++sg [59]::r)).then _=_
 rw[(reads_own e hsh).ok hsh (r:=0) (strong_10 _).1 (by omega) ho (quiet_not sg_semi (by decide) _)]
 rfl
theorem eq_read{q:Eqn}(h:eqB q=true){n op:Nat}(hn:13*q.toks.length+13≤n)(ho:op+2*q.e.depth≤200)(r:List Tok):eqT n op (q.toks++r)=.ok (q.nop,r):=by
 simp only[eqB,Bool.and_eq_true,decide_eq_true_eq] at h
 obtain⟨⟨⟨h1,h2⟩,h3⟩,h4⟩:=h
 obtain⟨na,nc,ns,pq,e⟩:=q
 simp only at h1 h2 h3 h4 ho
 have e1:Eqn.toks ⟨na,nc,ns,pq,e⟩++r=leftToks ns++(sg [61]::(e.toks++sg [59]::r)):=by unfold Eqn.toks;simp only[List.append_assoc,List.cons_append,List.nil_append]
 have hlen:e.toks.length≤(Eqn.toks ⟨na,nc,ns,pq,e⟩).length:=by unfold Eqn.toks;simp only[List.length_append,List.length_cons];omega
 have hlen2:ns.length≤(Eqn.toks ⟨na,nc,ns,pq,e⟩).length:=by
  have:ns.length≤(leftToks ns).length:=by
   have:=between_many (sep:=sg [44]) (l:=ns) (f:=fun n=>[nmTok n]) fun _ _=>Nat.le_refl _
   unfold leftToks nmsToks
   split
   ·exact this
   ·simp only[List.length_cons,List.length_append,List.length_nil];omega
  unfold Eqn.toks
  simp only[List.length_append]
  omega
 have K:=fun ns=>eqR_read h4 (n:=n) (op:=op) (by omega) ho ns r
 rw[e1]
 unfold leftToks eqT
 by_cases hl:ns.length=1
 ·rw[if_pos hl]
  obtain⟨nm,rfl⟩:∃nm,ns=[nm]:=by
   match ns,hl with
   | [x],_=>exact⟨x,rfl⟩
  have hnm:nameB nm=true:=by simpa using h3
  show(if nm=⟨#[40]⟩ then _ else eqR n op 0 [nm] (sg [61]::(e.toks++sg [59]::r)))=_
  rw[if_neg (name_ne hnm [40] (Or.inr ⟨40,by simp,by decide⟩)),K]
  rfl
 ·rw[if_neg hl]
  have e2:sg [40]::(nmsToks ns++[sg [41]])++(sg [61]::(e.toks++sg [59]::r))=sg [40]::(nmsToks ns++(sg [41]::sg [61]::(e.toks++sg [59]::r))):=by simp only[List.cons_append,List.append_assoc,List.nil_append]
  have:=listT_read (part:=nameT) (sep:=sg [44]) (tl:=sg [41]::sg [61]::(e.toks++sg [59]::r)) (fun n=>[nmTok n]) id (by decide:(sg [41]).text≠(sg [44]).text) ns (by rintro rfl;simp at h1) n (fun x hx q hq=>rfl) (by omega)
  rw[e2]
  show(if (sg [40]).text=⟨#[40]⟩ then (listT nameT (sg [44]).text n (nmsToks ns++(sg [41]::sg [61]::(e.toks++sg [59]::r)))).then (fun ns t1=>(wantT ⟨#[41]⟩ t1).then fun _ t2=>eqR n op 0 ns t2) else _)=_
  rw[if_pos (by decide)]
  unfold nmsToks
  rw[this,List.map_id_fun]
  show eqR n op 0 ns (sg [61]::(e.toks++sg [59]::r))=_
  rw[K]
  rfl
theorem eq_head{q:Eqn}(h:eqB q=true)(r:List Tok):(hd (q.toks++r)).text≠⟨#[116,101,108]⟩:=by
 simp only[eqB,Bool.and_eq_true,decide_eq_true_eq] at h
 obtain⟨⟨⟨h1,h2⟩,h3⟩,h4⟩:=h
 unfold Eqn.toks leftToks
 by_cases hl:q.ns.length=1
 ·rw[if_pos hl]
  obtain⟨nm,hnm⟩:∃nm,q.ns=[nm]:=by
   match h:q.ns,hl with
   | [x],_=>exact⟨x,rfl⟩
  rw[hnm] at h3 ⊢
  exact name_ne (nm:=nm) (by simpa using h3) [116,101,108] (Or.inl (by decide))
 ·rw[if_neg hl]
  exact(by decide:(sg [40]).text≠⟨#[116,101,108]⟩)
theorem pms_many(l:List Pm):l.length≤(pmsToks l).length:=between_many fun p _=>by simp only[Pm.toks,List.length_cons];omega
theorem eqDeep_mem{l:List Eqn}{q:Eqn}(h:q∈l):q.e.depth≤eqDeep l:=by
 induction l with
 | nil=>cases h
 | cons y r ih =>
  simp only[eqDeep]
  rcases List.mem_cons.1 h with rfl|h
  ·omega
  ·have:=ih h;omega
theorem ndDeep_mem{l:List Nd}{n:Nd}(h:n∈l):eqDeep n.eqs≤ndDeep l:=by
 induction l with
 | nil=>cases h
 | cons y r ih =>
  simp only[ndDeep]
  rcases List.mem_cons.1 h with rfl|h
  ·omega
  ·have:=ih h;omega
theorem eqsL_read{n op:Nat}{r:List Tok}:∀(l acc:List Eqn)(k:Nat),(∀q∈l,eqB q=true∧13*q.toks.length+13≤n∧op+2*q.e.depth≤200)→l.length+1≤k→eqsL n op k acc (eqsToks l++wd [116,101,108]::r)=.ok (acc++l.map Eqn.nop,r)
 | [],acc,m,_,hm=>by
  obtain⟨k,rfl⟩:∃k,m=k+1:=⟨m-1,by simp only[List.length_nil] at hm;omega⟩
  rw[List.map_nil,List.append_nil]
  rfl
 | q::l,acc,m,h,hm=>by
  obtain⟨k,rfl⟩:∃k,m=k+1:=⟨m-1,by simp only[List.length_cons] at hm;omega⟩
  obtain⟨h1,h2,h3⟩:=h q (List.mem_cons_self ..)
  have ih:=eqsL_read (n:=n) (op:=op) (r:=r) l (acc++[q.nop]) k (fun x hx=>h x (List.mem_cons_of_mem _ hx)) (by simp only[List.length_cons] at hm;omega)
  have e1:eqsToks (q::l)++wd [116,101,108]::r=q.toks++(eqsToks l++wd [116,101,108]::r):=by simp only[eqsToks,List.map_cons,List.flatten_cons,List.append_assoc]
  rw[e1,eqsL,if_neg (eq_head h1 _),eq_read h1 h2 h3]
  show eqsL n op k (acc++[q.nop]) _=_
  rw[ih,List.map_cons,List.append_assoc]
  rfl
theorem node_read{nd:Nd}(h:ndB nd=true){n:Nat}(hn:13*nd.toks.length+13≤n)(ho:2*eqDeep nd.eqs≤200)(r:List Tok):nodeT n 0 (nd.toks++r)=.ok (nd.nop,r):=by
 simp only[ndB,Bool.and_eq_true] at h
 obtain⟨⟨b0,⟨b1,b2⟩,b3⟩,b4⟩:=h
 obtain⟨fl,nm,pl,ia,ic,ins,oa,oc,outs,va,vc,vars,qa,qc,eqs⟩:=nd
 simp only at b0 b1 b2 b3 b4 ho
 have hlen:(Nd.toks ⟨fl,nm,pl,ia,ic,ins,oa,oc,outs,va,vc,vars,qa,qc,eqs⟩).length=(pmsToks ins).length+(pmsToks outs).length+(varsToks vars).length+(eqsToks eqs).length+9:=by
  unfold Nd.toks
  simp only[List.length_append,List.length_cons,List.length_nil]
  omega
 rw[hlen] at hn
 have m1:=pms_many ins
 have m2:=pms_many outs
 have m3:vars.length≤(varsToks vars).length:=by
  unfold varsToks
  split
  ·rename_i h;rw[h];simp
  ·have:=pms_many vars
   simp only[List.length_cons,List.length_append,List.length_nil];omega
 have m4:eqs.length≤(eqsToks eqs).length:=flat_many fun q hq=>by unfold Eqn.toks;simp only[List.length_append,List.length_cons];omega
 have e1:Nd.toks ⟨fl,nm,pl,ia,ic,ins,oa,oc,outs,va,vc,vars,qa,qc,eqs⟩++r=(if fl=true then wd [102,108,111,119] else wd [110,111,100,101])::nmTok nm::sg [40]::(pmsToks ins++sg [41]::wd [114,101,116,117,114,110,115]::sg [40]::(pmsToks outs++sg [41]::(varsToks vars++wd [108,101,116]::(eqsToks eqs++wd [116,101,108]::r)))):=by
  unfold Nd.toks
  simp only[List.append_assoc,List.cons_append,List.nil_append]
 rw[e1]
 have hfl:isFlow (if fl=true then wd [102,108,111,119] else wd [110,111,100,101])=fl:=by cases fl<;>decide
 have R1:=fun x=>params_read (one:=inOf fl) (l:=ins) (fun p hp=>⟨(pm_nums (List.all_eq_true.1 b1 p hp)).1,reads_in (List.all_eq_true.1 b1 p hp)⟩) n (by omega) x
 have R2:=fun x=>params_read (one:=outOf' fl) (l:=outs) (fun p hp=>⟨(pm_nums (List.all_eq_true.1 b2 p hp)).1,reads_out (List.all_eq_true.1 b2 p hp)⟩) n (by omega) x
 have R3:=fun x=>vars_read (l:=vars) (fun p hp=>List.all_eq_true.1 b3 p hp) n (by omega) x
 have R4:=eqsL_read (n:=n) (op:=0) (r:=r) eqs [] n (fun q hq=>⟨List.all_eq_true.1 b4 q hq,by have:=flat_mem (List.mem_map_of_mem (f:=Eqn.toks) hq);unfold eqsToks at hn;omega,by have:=eqDeep_mem hq;omega⟩) (by omega)
 unfold nodeT
 rw[show hd ((if fl=true then wd [102,108,111,119] else wd [110,111,100,101])::nmTok nm::sg [40]::(pmsToks ins++sg [41]::wd [114,101,116,117,114,110,115]::sg [40]::(pmsToks outs++sg [41]::(varsToks vars++wd [108,101,116]::(eqsToks eqs++wd [116,101,108]::r)))))=(if fl=true then wd [102,108,111,119] else wd [110,111,100,101]) from rfl,hfl]
 show(paramsT (inOf fl) n (sg [40]::(pmsToks ins++sg [41]::wd [114,101,116,117,114,110,115]::sg [40]::(pmsToks outs++sg [41]::(varsToks vars++wd [108,101,116]::(eqsToks eqs++wd [116,101,108]::r)))))).then _=_
 rw[R1]
 show(paramsT (outOf' fl) n (sg [40]::(pmsToks outs++sg [41]::(varsToks vars++wd [108,101,116]::(eqsToks eqs++wd [116,101,108]::r))))).then _=_
 rw[R2]
 show(varsT n (varsToks vars++wd [108,101,116]::(eqsToks eqs++wd [116,101,108]::r))).then _=_
 rw[R3]
 show(eqsL n 0 n [] (eqsToks eqs++wd [116,101,108]::r)).then _=_
 rw[R4]
 cases fl<;>rfl
theorem nodes_read{n:Nat}:∀(l acc:List Nd)(k:Nat),(∀x∈l,ndB x=true∧13*x.toks.length+13≤n∧2*eqDeep x.eqs≤200)→l.length+1≤k→nodesL n 0 k acc (ndsToks l++[endTok])=.ok (acc++l.map Nd.nop,[endTok])
 | [],acc,m,_,hm=>by
  obtain⟨k,rfl⟩:∃k,m=k+1:=⟨m-1,by simp only[List.length_nil] at hm;omega⟩
  rw[List.map_nil,List.append_nil]
  rfl
 | x::l,acc,m,h,hm=>by
  obtain⟨k,rfl⟩:∃k,m=k+1:=⟨m-1,by simp only[List.length_cons] at hm;omega⟩
  obtain⟨h1,h2,h3⟩:=h x (List.mem_cons_self ..)
  have ih:=nodes_read (n:=n) l (acc++[x.nop]) k (fun y hy=>h y (List.mem_cons_of_mem _ hy)) (by simp only[List.length_cons] at hm;omega)
  have e1:ndsToks (x::l)++[endTok]=x.toks++(ndsToks l++[endTok]):=by simp only[ndsToks,List.map_cons,List.flatten_cons,List.append_assoc]
  have hi:isNode (hd (x.toks++(ndsToks l++[endTok]))):=by
   show isNode (if x.fl=true then wd [102,108,111,119] else wd [110,111,100,101])
   cases x.fl<;>decide
  rw[e1,nodesL,if_pos hi,node_read h1 h2 h3]
  show nodesL n 0 k (acc++[x.nop]) _=_
  rw[ih,List.map_cons,List.append_assoc]
  rfl
theorem whole_read{l:List Nd}(hb:∀n∈l,ndB n=true)(hd:ndDeep l≤64):wholeT (ndsToks l++[endTok])=.ok (l.map Nd.nop,[endTok]):=by
 unfold wholeT
 have hl:l.length≤(ndsToks l).length:=flat_many fun n _=>by unfold Nd.toks;simp only[List.length_cons];omega
 exact nodes_read l [] _ (fun x hx=>⟨hb x hx,by have:=flat_mem (List.mem_map_of_mem (f:=Nd.toks) hx);unfold ndsToks;simp only[List.length_append,List.length_cons];omega,by have:=ndDeep_mem hx;omega⟩) (by simp only[List.length_append,List.length_cons];omega)
theorem may_deep{l:List Nd}(h:mayOf l=0):ndDeep l≤64:=by
 unfold mayOf at h
 split at h
 ·exact absurd h (by decide)
 split at h
 ·exact absurd h (by decide)
 split at h
 ·exact absurd h (by decide)
 ·omega
theorem program_back{l:List Nd}(hm:mayOf l=0)(hg:∀n∈l,n.nums∧n.good){s:ByteArray}(hs:s.data.toList=ndsText l)(he:(lexOf s).2.2=0):∃l',progT s=.ok l'∧l'.map Nd.nop=l.map Nd.nop:=by
 obtain⟨-,-,hb⟩:=may_ok hm
 obtain⟨ts,h1,h2,-⟩:=lex_back ((nds_lex fun n hn=>⟨(hb n hn).2,hg n hn⟩).mono fun _ _=>trivial) hs he
 exact read_back whole_bt h2 h1 (whole_read (fun n hn=>(hb n hn).2) (may_deep hm)) (by rw[may_nop];exact hm)
open Ex.bare
theorem bare_nop:∀e:Ex,e.bare.nop=e.nop
 | .mk kd pl nm it dn a c l=>by simp only[Ex.bare,Ex.nop,all l]
where all:∀l:List Ex,Ex.nop.nops (bares l)=Ex.nop.nops l
 | []=>rfl
 | e::r=>by simp only[bares,Ex.nop.nops,bare_nop e,all r]
theorem eqn_bare_nop(q:Eqn):q.bare.nop=q.nop:=by
 unfold Eqn.nop Eqn.bare
 simp only[bare_nop]
theorem nd_bare_nop(n:Nd):n.bare.nop=n.nop:=by
 simp only[Nd.nop,Nd.bare,List.map_map,Nd.mk.injEq,true_and]
 refine List.map_congr_left fun q _=>?_
 exact eqn_bare_nop q
theorem nds_bare_nop(l:List Nd):(l.map Nd.bare).map Nd.nop=l.map Nd.nop:=by
 rw[List.map_map]
 exact List.map_congr_left fun n _=>nd_bare_nop n
theorem like_map{α β:Type}{f:α→α→Bool}{g:α→β}(h:∀x y,g x=g y→f x y=true):∀(l l':List α),l.map g=l'.map g→likeB f l l'=true
 | [],[],_=>rfl
 | [],_::_,h=>by simp at h
 | _::_,[],h=>by simp at h
 | x::r,y::s,e=>by
  simp only[List.map_cons,List.cons.injEq] at e
  simp only[likeB,h x y e.1,like_map h r s e.2,Bool.and_self]
theorem textEq_self(x:ByteArray):textEq x x=true:=by simp[textEq]
theorem texts_same(l:List ByteArray):likeB textEq l l=true:=likeB_refl l fun x _=>textEq_self x
theorem pm_same{p q:Pm}(h:p.nop=q.nop):pmSame p q=true:=by
 simp only[Pm.nop,Pm.mk.injEq] at h
 obtain⟨h1,h2,-,h4,h5,h6,h7⟩:=h
 simp[pmSame,h1,h2,h4,h5,h6,h7,textEq_self]
theorem eqn_same{p q:Eqn}(h:p.nop=q.nop):eqSame p q=true:=by
 simp only[Eqn.nop,Eqn.mk.injEq,true_and] at h
 obtain⟨h1,h2⟩:=h
 unfold eqSame
 rw[h1,texts_same,bare_same _ _ h2]
 rfl
theorem nd_same{m n:Nd}(h:m.nop=n.nop):ndSame m n=true:=by
 simp only[Nd.nop,Nd.mk.injEq,true_and] at h
 obtain⟨h1,h2,h3,h4,h5,h6⟩:=h
 simp[ndSame,h1,h2,textEq_self,like_map (fun _ _=>pm_same) _ _ h3,like_map (fun _ _=>pm_same) _ _ h4,like_map (fun _ _=>pm_same) _ _ h5,like_map (fun _ _=>eqn_same) _ _ h6]
theorem nds_same{l l':List Nd}(h:l.map Nd.nop=l'.map Nd.nop):likeB ndSame l l'=true:=like_map (fun _ _=>nd_same) l l' h
end Go.Proofs.YthbgnpkgglbhjaaGreatDoor
namespace Go.Proofs.YthbgnpkgglbhjaaGreatDoor
open Ex.size Ex.depth Ex.shape Ex.text Ex.good Ex.toks
def bw(t:Tok):Nat:=if t.kind=0∧t.text=⟨#[]⟩ then 0 else max 1 (max t.text.size (if t.kind=2 then (Lib.itoa t.int).length else 0))
def bws:List Tok→Nat
 | []=>0
 | t::r=>bw t+bws r
theorem bws_took(ts:List Tok):bw (hd ts)+bws ts.tail=bws ts:=by
 cases ts with
 | nil=>decide
 | cons t r=>rfl
theorem bw_text{t:Tok}{s:ByteArray}(h:t.text=s)(hs:s≠⟨#[]⟩):max 1 s.size≤bw t:=by
 unfold bw
 rw[if_neg (fun k=>hs (h▸k.2)),h]
 omega
theorem bw_name{t:Tok}(h:t.kind=1):max 1 t.text.size≤bw t:=by
 unfold bw
 rw[if_neg (fun k=>by rw[h] at k;exact absurd k.1 (by decide))]
 omega
theorem bw_num{t:Tok}(h:t.kind=2):max 1 (Lib.itoa t.int).length≤bw t:=by
 unfold bw
 rw[if_neg (fun k=>by rw[h] at k;exact absurd k.1 (by decide)),if_pos h]
 omega
def Ln{α:Type}(f g:α→Nat)(m n:Nat)(p:PR α)(ts:List Tok):Prop:=∀a t2,p=.ok (a,t2)→f a+5*bws t2≤m+5*bws ts∧g a+3*bws t2≤n+3*bws ts
theorem Ln.ok{α:Type}{f g:α→Nat}{m n:Nat}{a:α}{t ts:List Tok}(h:f a+5*bws t≤m+5*bws ts)(h2:g a+3*bws t≤n+3*bws ts):Ln f g m n (.ok (a,t):PR α) ts:=fun _ _ e=>by
 simp only[Except.ok.injEq,Prod.mk.injEq] at e
 rw[←e.1,←e.2];exact⟨h,h2⟩
theorem Ln.error{α:Type}{f g:α→Nat}{m n:Nat}{k:Nat × Int}{ts:List Tok}:Ln f g m n (.error k:PR α) ts:=fun _ _ e=>by cases e
theorem Ln.then{α β:Type}{f g:α→Nat}{f2 g2:β→Nat}{m n m2 n2:Nat}{p:PR α}{q:α→List Tok→PR β}{ts t0:List Tok}(h:Ln f g m n p t0)(hq:∀a t2,f a+5*bws t2≤m+5*bws t0→g a+3*bws t2≤n+3*bws t0→Ln f2 g2 m2 n2 (q a t2) ts):Ln f2 g2 m2 n2 (p.then q) ts:=fun b t3 e=>by
 cases p with
 | error k=>cases e
 | ok r =>
  obtain⟨h1,h2⟩:=h r.1 r.2 rfl
  exact hq r.1 r.2 h1 h2 b t3 e
theorem Ln.lift{α:Type}{f g:α→Nat}{m n m2 n2:Nat}{p:PR α}{t ts:List Tok}(h:Ln f g m n p t)(h1:m+5*bws t≤m2+5*bws ts)(h2:n+3*bws t≤n2+3*bws ts):Ln f g m2 n2 p ts:=fun a t2 e=>by have:=h a t2 e;omega
theorem want_ln{β:Type}{f2 g2:β→Nat}{m2 n2:Nat}{s:ByteArray}(hs:s≠⟨#[]⟩){ts t0:List Tok}{q:Unit→List Tok→PR β}(hq:∀t2,max 1 s.size+bws t2≤bws t0→Ln f2 g2 m2 n2 (q () t2) ts):Ln f2 g2 m2 n2 ((wantT s t0).then q) ts:=by
 unfold wantT
 split
 ·rename_i h
  exact hq _ (by have:=bws_took t0;have:=bw_text h hs;omega)
 ·exact Ln.error
theorem num_ln{β:Type}{f2 g2:β→Nat}{m2 n2:Nat}{l:Int}{ts t0:List Tok}{q:Int→List Tok→PR β}(hq:∀n t2,l≤n→max 1 (Lib.itoa n).length+bws t2≤bws t0→Ln f2 g2 m2 n2 (q n t2) ts):Ln f2 g2 m2 n2 ((numT l t0).then q) ts:=by
 unfold numT
 split
 ·rename_i h
  exact hq _ _ (by have:=h.2;omega) (by have:=bws_took t0;have:=bw_num h.1;omega)
 ·exact Ln.error
theorem name_ln{β:Type}{f2 g2:β→Nat}{m2 n2:Nat}{ts t0:List Tok}{q:ByteArray→List Tok→PR β}(hq:∀s t2,max 1 s.size+bws t2≤bws t0→Ln f2 g2 m2 n2 (q s t2) ts):Ln f2 g2 m2 n2 ((nameT t0).then q) ts:=by
 unfold nameT
 split
 ·rename_i h
  exact hq _ _ (by have:=bws_took t0;have:=bw_name h;omega)
 ·exact Ln.error
theorem open_ln{α:Type}{f g:α→Nat}{m n op:Nat}{t0 ts:List Tok}{q:List Tok→PR α}(h:Ln f g m n (q t0.tail) ts):Ln f g m n (openT op t0 q) ts:=by
 unfold openT
 split
 ·exact Ln.error
 ·exact h
def fE(e:Ex):Nat:=e.text.length+2
def gE(e:Ex):Nat:=e.toks.length+2
theorem parT_len(n kd:Int)(s:List Tok):(parT n (kd,s)).length≤s.length+2:=by
 unfold parT
 split
 ·simp only[List.length_cons,List.length_append,List.length_nil];omega
 ·simp
instance (k:Int):Decidable (isTwo k):=inferInstanceAs (Decidable (_∨_))
theorem signs_len:∀x∈signTab,(x.2.1≠6→isTwo x.2.2∧(signOf x.2.2).length+2≤5*x.1.length∧1≤x.1.length)∧(x.2.1=6→(x.2.2=24∨x.2.2=25∨x.2.2=26)∧x.1.length=2):=by
 intro x hx
 simp only[signTab,List.mem_cons,List.not_mem_nil,or_false] at hx
 rcases hx with rfl|rfl|rfl|rfl|rfl|rfl|rfl|rfl|rfl|rfl|rfl|rfl|rfl|rfl|rfl|rfl|rfl|rfl<;>decide
theorem sgn_entry{rule k:Int}{ts:List Tok}(h:sgn rule ts=some k):∃x∈signTab,x.1=(hd ts).text.data.toList∧x.2.1=rule∧x.2.2=k:=by
 unfold sgn at h
 split at h
 ·rename_i r k' hs
  split at h
  ·rename_i hr
   obtain⟨x,hx,hx2⟩:=Option.map_eq_some_iff.1 hs
   injection h with h
   refine⟨x,List.mem_of_find?_eq_some hx,?_,?_,?_⟩
   ·have:=List.find?_some hx
    simpa using this
   ·rw[hx2];exact hr
   ·rw[hx2];exact h
  ·cases h
 ·cases h
theorem sgn_two{rule k:Int}{ts:List Tok}(h:sgn rule ts=some k)(hr:rule≠6):isTwo k∧(signOf k).length+2+5*bws ts.tail≤5*bws ts∧3+3*bws ts.tail≤3*bws ts:=by
 obtain⟨x,hx,h1,h2,h3⟩:=sgn_entry h
 obtain⟨k1,k2,k3⟩:=(signs_len x hx).1 (by rw[h2];exact hr)
 rw[h3] at k1 k2
 have hne:(hd ts).text≠⟨#[]⟩:=fun e=>by rw[e] at h1;rw[h1] at k3;exact absurd k3 (by decide)
 have h4:=bw_text (t:=hd ts) rfl hne
 have h5:=bws_took ts
 have h6:x.1.length=(hd ts).text.size:=by rw[h1];exact size_list _
 exact⟨k1,by omega,by omega⟩
theorem sgn_six{k:Int}{ts:List Tok}(h:sgn 6 ts=some k):(k=24∨k=25∨k=26)∧2+bws ts.tail≤bws ts:=by
 obtain⟨x,hx,h1,h2,h3⟩:=sgn_entry h
 obtain⟨k1,k2⟩:=(signs_len x hx).2 h2
 rw[h3] at k1
 have hne:(hd ts).text≠⟨#[]⟩:=fun e=>by rw[e] at h1;rw[h1] at k2;exact absurd k2 (by decide)
 have h4:=bw_text (t:=hd ts) rfl hne
 have h5:=bws_took ts
 have h6:x.1.length=(hd ts).text.size:=by rw[h1];exact size_list _
 exact⟨k1,by omega⟩
theorem mk2_len{k:Int}(hk:isTwo k)(a b:Ex):fE (mk2 k a b)≤fE a+fE b+(signOf k).length+2∧gE (mk2 k a b)≤gE a+gE b+3:=by
 have h1:=par_len (firstOf k) a.kd a.text
 have h2:=par_len (secondOf k) b.kd b.text
 have h3:=parT_len (firstOf k) a.kd a.toks
 have h4:=parT_len (secondOf k) b.kd b.toks
 unfold fE gE mk2
 rw[two_text hk,two_toks hk]
 simp only[List.length_append,List.length_cons]
 omega
theorem one_len(pl:Int)(x:Ex):(fE (mk1 5 pl x 0 0)≤fE x+4∧gE (mk1 5 pl x 0 0)≤gE x+3)∧(fE (mk1 6 pl x 0 0)≤fE x+6∧gE (mk1 6 pl x 0 0)≤gE x+3)∧(fE (mk1 23 pl x 0 0)≤fE x+7∧gE (mk1 23 pl x 0 0)≤gE x+3):=by
 have h1:=par_len 8 x.kd x.text
 have h2:=par_len 4 x.kd x.text
 have h3:=parT_len 8 x.kd x.toks
 have h4:=parT_len 4 x.kd x.toks
 have e1:(mk1 5 pl x 0 0).text=[45]++(if x.kd=5 then [32] else [])++par 8 (x.kd,x.text):=rfl
 have e2:(mk1 6 pl x 0 0).text=[110,111,116,32]++par 4 (x.kd,x.text):=rfl
 have e3:(mk1 23 pl x 0 0).text=[116,97,105,108,32]++par 8 (x.kd,x.text):=rfl
 have t1:(mk1 5 pl x 0 0).toks=sg [45]::parT 8 (x.kd,x.toks):=rfl
 have t2:(mk1 6 pl x 0 0).toks=wd [110,111,116]::parT 4 (x.kd,x.toks):=rfl
 have t3:(mk1 23 pl x 0 0).toks=wd [116,97,105,108]::parT 8 (x.kd,x.toks):=rfl
 have hi:(if x.kd=5 then ([32]:List UInt8) else []).length≤1:=by split<;>decide
 unfold fE gE
 rw[e1,e2,e3,t1,t2,t3]
 simp only[List.length_append,List.length_cons,List.length_nil]
 omega
theorem up_len{k:Int}(hk:k=24∨k=25)(pl it:Int)(x:Ex):fE (mk1 k pl x it 0)≤fE x+6+(Lib.itoa it).length∧gE (mk1 k pl x it 0)≤gE x+4:=by
 have h1:=par_len 9 x.kd x.text
 have h3:=parT_len 9 x.kd x.toks
 rcases hk with rfl|rfl
 ·have e1:(mk1 24 pl x it 0).text=par 9 (x.kd,x.text)++[32,42,94,32]++Lib.itoa it:=rfl
  have t1:(mk1 24 pl x it 0).toks=parT 9 (x.kd,x.toks)++[sg [42,94],numTok it]:=rfl
  unfold fE gE
  rw[e1,t1]
  simp only[List.length_append,List.length_cons,List.length_nil]
  omega
 ·have e1:(mk1 25 pl x it 0).text=par 9 (x.kd,x.text)++[32,47,94,32]++Lib.itoa it:=rfl
  have t1:(mk1 25 pl x it 0).toks=parT 9 (x.kd,x.toks)++[sg [47,94],numTok it]:=rfl
  unfold fE gE
  rw[e1,t1]
  simp only[List.length_append,List.length_cons,List.length_nil]
  omega
theorem late_len(pl it dn:Int)(x:Ex):fE (mk1 26 pl x it dn)≤fE x+7+(Lib.itoa it).length+(Lib.itoa dn).length∧gE (mk1 26 pl x it dn)≤gE x+6:=by
 have h1:=par_len 9 x.kd x.text
 have h3:=parT_len 9 x.kd x.toks
 have e1:(mk1 26 pl x it dn).text=par 9 (x.kd,x.text)++[32,126,62,32]++Lib.itoa it++[47]++Lib.itoa dn:=rfl
 have t1:(mk1 26 pl x it dn).toks=parT 9 (x.kd,x.toks)++[sg [126,62],numTok it,sg [47],numTok dn]:=rfl
 unfold fE gE
 rw[e1,t1]
 simp only[List.length_append,List.length_cons,List.length_nil]
 omega
theorem itoa_one:(Lib.itoa 1).length=1:=by
 rw[itoa_dec (by decide),show(1:Int).toNat=1 from rfl,Lib.decDigits]
 rfl
theorem chain_ln{part:List Tok→PR Ex}(hp:∀ts,Ln fE gE 0 0 (part ts) ts){rule:Int}(hr:rule≠6):∀n e ts,Ln fE gE (fE e) (gE e) (chainL part rule n e ts) ts
 | 0,_,_=>Ln.error
 | n+1,e,ts=>by
  unfold chainL
  split
  ·exact Ln.ok (Nat.le_refl _) (Nat.le_refl _)
  ·rename_i k hs
   obtain⟨k1,k2,k3⟩:=sgn_two hs hr
   refine Ln.then (hp ts.tail) fun e2 t2 h1 h2=>?_
   obtain⟨q1,q2⟩:=mk2_len k1 e e2
   exact(chain_ln hp hr n (mk2 k e e2) t2).lift (by omega) (by omega)
theorem post_ln:∀n e ts,Ln fE gE (fE e) (gE e) (postL n e ts) ts
 | 0,_,_=>Ln.error
 | n+1,e,ts=>by
  unfold postL
  split
  ·exact Ln.ok (Nat.le_refl _) (Nat.le_refl _)
  ·rename_i k hs
   obtain⟨k1,k2⟩:=sgn_six hs
   split
   ·rename_i h26
    unfold lateT
    have key:∀(a b:Int)(t2:List Tok),(Lib.itoa a).length+(Lib.itoa b).length+bws t2≤bws ts.tail+1→(Lib.itoa a).length≤bws ts.tail-bws t2→1+bws t2≤bws ts.tail→Ln fE gE (fE e) (gE e) (postL n (mk1 k e.pl e (a,b).1 (a,b).2) t2) ts:=fun a b t2 h1 h2 h3=>by
     rw[h26]
     obtain⟨q1,q2⟩:=late_len e.pl a b e
     exact(post_ln n _ t2).lift (by simp only;omega) (by simp only;omega)
    have asc:∀{p:PR Int}{q:Int→List Tok→PR (Int × Int)}{r:Int × Int→List Tok→PR Ex},(p.then q).then r=p.then fun a t=>(q a t).then r:=fun {p q r}=>by cases p<;>rfl
    rw[asc]
    refine num_ln fun a t1 _ h1=>?_
    split
    ·rename_i hsl
     have h4:=bws_took t1
     have h5:=bw_text hsl (by decide)
     rw[asc]
     refine num_ln fun b t2 _ h2=>?_
     have e0:(⟨#[47]⟩:ByteArray).size=1:=rfl
     exact key a b t2 (by omega) (by omega) (by omega)
    ·exact key a 1 t1 (by rw[itoa_one];omega) (by omega) (by omega)
   ·rename_i h26
    refine num_ln fun a t1 _ h1=>?_
    obtain⟨q1,q2⟩:=up_len (k:=k) (by omega) e.pl a e
    exact(post_ln n _ t1).lift (by omega) (by omega)
def sumF{α:Type}(f:α→Nat):List α→Nat
 | []=>0
 | x::r=>f x+sumF f r
theorem sumF_app{α:Type}(f:α→Nat)(l:List α)(x:α):sumF f (l++[x])=sumF f l+f x:=by
 induction l with
 | nil=>simp[sumF]
 | cons y r ih=>simp only[List.cons_append,sumF,ih];omega
theorem listL_ln{α:Type}{f g:α→Nat}{part:List Tok→PR α}(hp:∀ts,Ln f g 0 0 (part ts) ts){s:ByteArray}(hs:s≠⟨#[]⟩):∀n l ts,Ln (sumF f) (sumF g) (sumF f l) (sumF g l) (listL part s n l ts) ts
 | 0,_,_=>Ln.error
 | n+1,l,ts=>by
  unfold listL
  split
  ·rename_i h
   have h1:=bws_took ts
   refine Ln.then (hp ts.tail) fun x t2 h2 h3=>(listL_ln hp hs n _ t2).lift ?_ ?_
   ·rw[sumF_app];omega
   ·rw[sumF_app];omega
  ·exact Ln.ok (Nat.le_refl _) (Nat.le_refl _)
theorem listT_ln{α:Type}{f g:α→Nat}{part:List Tok→PR α}(hp:∀ts,Ln f g 0 0 (part ts) ts){s:ByteArray}(hs:s≠⟨#[]⟩)(n:Nat)(ts:List Tok):Ln (sumF f) (sumF g) 0 0 (listT part s n ts) ts:=by
 unfold listT
 refine Ln.then (hp ts) fun x t2 h2 h3=>(listL_ln hp hs n [x] t2).lift ?_ ?_
 ·simp only[sumF];omega
 ·simp only[sumF];omega
theorem rests_sum{α:Type}(sep:List UInt8)(f:α→List UInt8)(l:List α):(rests sep (l.map f)).length=sumF (fun x=>(f x).length+sep.length) l:=by
 induction l with
 | nil=>rfl
 | cons x r ih=>simp only[List.map_cons,rests,List.length_append,sumF,ih];omega
theorem between_sum'{α:Type}(sep:List UInt8)(f:α→List UInt8)(l:List α):(between sep (l.map f)).length≤sumF (fun x=>(f x).length+sep.length) l:=by
 cases l with
 | nil=>exact Nat.le_refl _
 | cons x r =>
  have:=rests_sum sep f r
  simp only[List.map_cons,between,List.length_append,sumF,this]
  omega
theorem restsT_sum{α:Type}(sep:Tok)(f:α→List Tok)(l:List α):(restsT sep (l.map f)).length=sumF (fun x=>(f x).length+1) l:=by
 induction l with
 | nil=>rfl
 | cons x r ih=>simp only[List.map_cons,restsT,List.length_append,List.length_cons,sumF,ih];omega
theorem betweenT_sum{α:Type}(sep:Tok)(f:α→List Tok)(l:List α):(betweenT sep (l.map f)).length≤sumF (fun x=>(f x).length+1) l:=by
 cases l with
 | nil=>exact Nat.le_refl _
 | cons x r =>
  have:=restsT_sum sep f r
  simp only[List.map_cons,betweenT,List.length_append,sumF,this]
  omega
theorem sumF_mono{α:Type}{f g:α→Nat}(h:∀x,f x≤g x)(l:List α):sumF f l≤sumF g l:=by
 induction l with
 | nil=>exact Nat.le_refl _
 | cons x r ih=>simp only[sumF];have:=h x;omega
theorem call_len(pl:Int)(nm:ByteArray)(l:List Ex):fE (.mk 4 pl nm 0 0 none 0 l)≤nm.size+4+sumF fE l∧gE (.mk 4 pl nm 0 0 none 0 l)≤5+sumF gE l:=by
 have h1:=between_sum' [44,32] Ex.text l
 have h2:=betweenT_sum (sg [44]) Ex.toks l
 have h3:sumF (fun x:Ex=>x.text.length+([44,32]:List UInt8).length) l≤sumF fE l:=sumF_mono (fun x=>Nat.le_refl _) l
 have h4:sumF (fun x:Ex=>x.toks.length+1) l≤sumF gE l:=sumF_mono (fun x=>by unfold gE;omega) l
 have hz:=size_list nm
 unfold fE gE at *
 rw[text_4,toks_4]
 simp only[List.length_append,List.length_cons,List.length_nil,hz] at *
 omega
theorem if_len(pl:Int)(a b c:Ex):fE (.mk 20 pl ⟨#[]⟩ 0 0 none 0 [a,b,c])≤fE a+fE b+fE c+11∧gE (.mk 20 pl ⟨#[]⟩ 0 0 none 0 [a,b,c])≤gE a+gE b+gE c:=by
 have e1:Ex.toks (.mk 20 pl ⟨#[]⟩ 0 0 none 0 [a,b,c])=wd [105,102]::(a.toks++wd [116,104,101,110]::(b.toks++wd [101,108,115,101]::c.toks)):=rfl
 have e2:Ex.text (.mk 20 pl ⟨#[]⟩ 0 0 none 0 [a,b,c])=[105,102,32]++a.text++[32,116,104,101,110,32]++b.text++[32,101,108,115,101,32]++c.text:=rfl
 unfold fE gE
 rw[e1,e2]
 simp only[List.length_append,List.length_cons,List.length_nil]
 omega
theorem pp_ln:∀n r op ts,Ln fE gE 0 0 (pp n r op ts) ts
 | 0,_,_,_=>Ln.error
 | n+1,r,op,ts=>by
  have ih:=pp_ln n
  have took:=bws_took ts
  unfold pp
  by_cases h:r=0
  ·rw[if_pos h]
   split
   ·rename_i h1
    have h2:=bw_text h1 (by decide)
    have s2:(⟨#[105,102]⟩:ByteArray).size=2:=rfl
    have s4:(⟨#[116,104,101,110]⟩:ByteArray).size=4:=rfl
    have s5:(⟨#[101,108,115,101]⟩:ByteArray).size=4:=rfl
    refine open_ln (Ln.then (ih 0 _ ts.tail) fun a t2 a1 a2=>want_ln (by decide) fun t3 w1=>Ln.then (ih 0 _ t3) fun b t4 b1 b2=>want_ln (by decide) fun t5 w2=>Ln.then (ih 0 _ t5) fun c t6 c1 c2=>?_)
    obtain⟨q1,q2⟩:=if_len (hd ts).place a b c
    exact Ln.ok (by omega) (by omega)
   ·exact ih 1 op ts
  rw[if_neg h]
  by_cases h:r=1
  ·rw[if_pos h]
   refine Ln.then (ih 2 op ts) fun a t1 a1 a2=>?_
   split
   ·exact Ln.ok a1 a2
   ·rename_i k hs
    obtain⟨k1,k2,k3⟩:=sgn_two hs (by decide)
    refine open_ln (Ln.then (ih 1 _ t1.tail) fun b t3 b1 b2=>?_)
    obtain⟨q1,q2⟩:=mk2_len k1 a b
    exact Ln.ok (by omega) (by omega)
  rw[if_neg h]
  by_cases h:r=2
  ·rw[if_pos h]
   exact Ln.then (ih 3 op ts) fun a t1 a1 a2=>(chain_ln (ih 3 op) (by decide) n a t1).lift (by omega) (by omega)
  rw[if_neg h]
  by_cases h:r=3
  ·rw[if_pos h]
   exact Ln.then (ih 4 op ts) fun a t1 a1 a2=>(chain_ln (ih 4 op) (by decide) n a t1).lift (by omega) (by omega)
  rw[if_neg h]
  by_cases h:r=4
  ·rw[if_pos h]
   split
   ·rename_i h1
    have h2:=bw_text h1 (by decide)
    have s2:(⟨#[110,111,116]⟩:ByteArray).size=3:=rfl
    refine open_ln (Ln.then (ih 4 _ ts.tail) fun a t2 a1 a2=>?_)
    obtain⟨-,⟨q1,q2⟩,-⟩:=one_len (hd ts).place a
    exact Ln.ok (by omega) (by omega)
   ·exact ih 5 op ts
  rw[if_neg h]
  by_cases h:r=5
  ·rw[if_pos h]
   refine Ln.then (ih 6 op ts) fun a t1 a1 a2=>?_
   split
   ·exact Ln.ok a1 a2
   ·rename_i k hs
    obtain⟨k1,k2,k3⟩:=sgn_two hs (by decide)
    refine Ln.then (ih 6 op t1.tail) fun b t3 b1 b2=>?_
    obtain⟨q1,q2⟩:=mk2_len k1 a b
    exact Ln.ok (by omega) (by omega)
  rw[if_neg h]
  by_cases h:r=6
  ·rw[if_pos h]
   exact Ln.then (ih 7 op ts) fun a t1 a1 a2=>(chain_ln (ih 7 op) (by decide) n a t1).lift (by omega) (by omega)
  rw[if_neg h]
  by_cases h:r=7
  ·rw[if_pos h]
   exact Ln.then (ih 8 op ts) fun a t1 a1 a2=>(chain_ln (ih 8 op) (by decide) n a t1).lift (by omega) (by omega)
  rw[if_neg h]
  by_cases h:r=8
  ·rw[if_pos h]
   split
   ·rename_i h1
    have h2:=bw_text h1 (by decide)
    refine open_ln (Ln.then (ih 8 _ ts.tail) fun a t2 a1 a2=>?_)
    obtain⟨⟨q1,q2⟩,-⟩:=one_len (hd ts).place a
    exact Ln.ok (by omega) (by omega)
   split
   ·rename_i h1
    have h2:=bw_text h1 (by decide)
    have s2:(⟨#[116,97,105,108]⟩:ByteArray).size=4:=rfl
    refine open_ln (Ln.then (ih 8 _ ts.tail) fun a t2 a1 a2=>?_)
    obtain⟨-,-,q1,q2⟩:=one_len (hd ts).place a
    exact Ln.ok (by omega) (by omega)
   ·exact ih 9 op ts
  rw[if_neg h]
  by_cases h:r=9
  ·rw[if_pos h]
   exact Ln.then (ih 10 op ts) fun a t1 a1 a2=>(post_ln n a t1).lift (by omega) (by omega)
  rw[if_neg h]
  split
  ·rename_i h1
   have h2:=bw_num h1
   have e1:fE (leafE 2 (hd ts).place (hd ts).int)=(Lib.itoa (hd ts).int).length+2:=rfl
   have e2:gE (leafE 2 (hd ts).place (hd ts).int)=3:=rfl
   exact Ln.ok (by omega) (by omega)
  split
  ·rename_i h1
   have h2:=bw_name h1
   split
   ·rename_i h3
    have h4:=bw_text h3 (by decide)
    have took2:=bws_took ts.tail
    refine open_ln (Ln.then (listT_ln (ih 0 _) (by decide) n ts.tail.tail) fun l t2 l1 l2=>want_ln (by decide) fun t3 w1=>?_)
    obtain⟨q1,q2⟩:=call_len (hd ts).place (hd ts).text l
    exact Ln.ok (by omega) (by omega)
   ·have e1:fE (.mk 1 (hd ts).place (hd ts).text 0 0 none 0 [])=(hd ts).text.data.toList.length+2:=rfl
    have e2:gE (.mk 1 (hd ts).place (hd ts).text 0 0 none 0 [])=3:=rfl
    have hz:=size_list (hd ts).text
    exact Ln.ok (by omega) (by omega)
  split
  ·rename_i h1
   have h2:=bw_text h1 (by decide)
   have s2:(⟨#[116,114,117,101]⟩:ByteArray).size=4:=rfl
   have e1:fE (leafE 3 (hd ts).place 1)=6:=rfl
   have e2:gE (leafE 3 (hd ts).place 1)=3:=rfl
   exact Ln.ok (by omega) (by omega)
  split
  ·rename_i h1
   have h2:=bw_text h1 (by decide)
   have s2:(⟨#[102,97,108,115,101]⟩:ByteArray).size=5:=rfl
   have e1:fE (leafE 3 (hd ts).place 0)=7:=rfl
   have e2:gE (leafE 3 (hd ts).place 0)=3:=rfl
   exact Ln.ok (by omega) (by omega)
  split
  ·rename_i h1
   have h2:=bw_text h1 (by decide)
   exact open_ln (Ln.then (ih 0 _ ts.tail) fun a t2 a1 a2=>want_ln (by decide) fun t3 w1=>Ln.ok (by omega) (by omega))
  ·exact Ln.error
def fP(p:Pm):Nat:=p.text.length+2
def gP(p:Pm):Nat:=p.toks.length+1
def fN(s:ByteArray):Nat:=s.size+2
def gN(_:ByteArray):Nat:=2
def fQ(q:Eqn):Nat:=q.text.length
def gQ(q:Eqn):Nat:=q.toks.length
def fD(n:Nd):Nat:=n.text.length
def gD(n:Nd):Nat:=n.toks.length
theorem param_ln(ts:List Tok):Ln fP gP 0 0 (paramT ts) ts:=by
 have key:∀(s:ByteArray)(ty pl:Int),(ty=1→fP ⟨s,ty,pl,false,0,0,0⟩=s.size+7)∧(ty=2→fP ⟨s,ty,pl,false,0,0,0⟩=s.size+8)∧gP ⟨s,ty,pl,false,0,0,0⟩=4:=fun s ty pl=>by
  have hz:=size_list s
  refine⟨fun h=>?_,fun h=>?_,rfl⟩
  ·subst h
   unfold fP
   rw[pm_text]
   simp only[List.length_append,hz,kindText,rateText,dueText,List.length_cons,List.length_nil]
   simp
  ·subst h
   unfold fP
   rw[pm_text]
   simp only[List.length_append,hz,kindText,rateText,dueText,List.length_cons,List.length_nil]
   simp
 unfold paramT
 refine name_ln fun s t1 h1=>want_ln (by decide) fun t2 h2=>?_
 have e1:(⟨#[58]⟩:ByteArray).size=1:=rfl
 split
 ·rename_i hb
  have h3:=bw_text hb (by decide)
  have h4:=bws_took t2
  have e2:(⟨#[98,111,111,108]⟩:ByteArray).size=4:=rfl
  obtain⟨-,k2,k3⟩:=key s 2 (hd ts).place
  have k2:=k2 rfl
  exact Ln.ok (by omega) (by omega)
 ·refine want_ln (by decide) fun t3 h3=>?_
  have e2:(⟨#[105,110,116]⟩:ByteArray).size=3:=rfl
  obtain⟨k1,-,k3⟩:=key s 1 (hd ts).place
  have k1:=k1 rfl
  exact Ln.ok (by omega) (by omega)
theorem in_ln(ts:List Tok):Ln fP gP 0 0 (inT ts) ts:=by
 unfold inT
 refine Ln.then (param_ln ts) fun p t1 h1 h2=>?_
 split
 ·rename_i hr
  have h3:=bw_text hr (by decide)
  have h4:=bws_took t1
  have e4:(⟨#[114,97,116,101]⟩:ByteArray).size=4:=rfl
  refine want_ln (by decide) fun t2 w1=>num_ln fun a t3 _ n1=>want_ln (by decide) fun t4 w2=>num_ln fun b t5 _ n2=>want_ln (by decide) fun t6 w3=>?_
  have e1:(⟨#[40]⟩:ByteArray).size=1:=rfl
  have e2:(⟨#[44]⟩:ByteArray).size=1:=rfl
  have e3:(⟨#[41]⟩:ByteArray).size=1:=rfl
  have k1:fP ⟨p.nm,p.ty,p.pl,true,a,b,p.du⟩≤fP p+10+(Lib.itoa a).length+(Lib.itoa b).length:=by
   unfold fP
   rw[pm_text,pm_text]
   simp only[List.length_append,rateText,if_pos,List.length_cons,List.length_nil]
   omega
  have k2:gP ⟨p.nm,p.ty,p.pl,true,a,b,p.du⟩≤gP p+6:=by
   unfold gP Pm.toks
   simp only[List.length_append,rateToks,if_pos,List.length_cons,List.length_nil]
   omega
  exact Ln.ok (by omega) (by omega)
 ·exact Ln.ok h1 h2
theorem out_ln(ts:List Tok):Ln fP gP 0 0 (outT ts) ts:=by
 unfold outT
 refine Ln.then (param_ln ts) fun p t1 h1 h2=>?_
 split
 ·rename_i hr
  have h3:=bw_text hr (by decide)
  have h4:=bws_took t1
  have e4:(⟨#[100,117,101]⟩:ByteArray).size=3:=rfl
  refine num_ln fun a t3 _ n1=>?_
  have k1:fP ⟨p.nm,p.ty,p.pl,p.rt,p.pd,p.st,a⟩≤fP p+5+(Lib.itoa a).length:=by
   unfold fP
   rw[pm_text,pm_text]
   have:(dueText a).length≤5+(Lib.itoa a).length:=by
    unfold dueText
    split
    ·simp only[List.length_append,List.length_cons,List.length_nil];omega
    ·simp
   simp only[List.length_append]
   omega
  have k2:gP ⟨p.nm,p.ty,p.pl,p.rt,p.pd,p.st,a⟩≤gP p+2:=by
   have:(dueToks a).length≤2:=by unfold dueToks;split<;>simp
   unfold gP Pm.toks
   simp only[List.length_append,List.length_cons]
   omega
  exact Ln.ok (by omega) (by omega)
 ·exact Ln.ok h1 h2
theorem inOf_ln(fl:Bool)(ts:List Tok):Ln fP gP 0 0 (inOf fl ts) ts:=by
 cases fl
 ·exact param_ln ts
 ·exact in_ln ts
theorem outOf_ln(fl:Bool)(ts:List Tok):Ln fP gP 0 0 (outOf' fl ts) ts:=by
 cases fl
 ·exact param_ln ts
 ·exact out_ln ts
theorem params_ln{one:List Tok→PR Pm}(h:∀ts,Ln fP gP 0 0 (one ts) ts)(n:Nat)(ts:List Tok):Ln (sumF fP) (sumF gP) 0 0 (paramsT one n ts) (ts)∧∀l t2,paramsT one n ts=.ok (l,t2)→2+sumF fP l+5*bws t2+8≤5*bws ts∧6+sumF gP l+3*bws t2≤3*bws ts:=by
 have key:∀l t2,paramsT one n ts=.ok (l,t2)→2+sumF fP l+5*bws t2+8≤5*bws ts∧6+sumF gP l+3*bws t2≤3*bws ts:=by
  suffices H:Ln (fun l=>2+sumF fP l+8) (fun l=>6+sumF gP l) 0 0 (paramsT one n ts) ts from fun l t2 e=>by
   have:=H l t2 e
   simp only at this
   omega
  unfold paramsT
  refine want_ln (by decide) fun t1 h1=>?_
  have e1:(⟨#[40]⟩:ByteArray).size=1:=rfl
  split
  ·rename_i h2
   have h3:=bw_text h2 (by decide)
   have h4:=bws_took t1
   exact Ln.ok (by simp only[sumF];omega) (by simp only[sumF];omega)
  ·refine Ln.then (listT_ln h (by decide) n t1) fun l t2 l1 l2=>want_ln (by decide) fun t3 w1=>Ln.ok (by omega) (by omega)
 exact⟨fun l t2 e=>by have:=key l t2 e;omega,key⟩
theorem varsL_ln:∀n l ts,Ln (sumF fP) (sumF gP) (sumF fP l) (sumF gP l) (varsL n l ts) ts
 | 0,_,_=>Ln.error
 | n+1,l,ts=>by
  unfold varsL
  split
  ·exact Ln.ok (Nat.le_refl _) (Nat.le_refl _)
  ·refine Ln.then (param_ln ts) fun p t1 h1 h2=>want_ln (by decide) fun t2 h3=>(varsL_ln n _ t2).lift ?_ ?_
   ·rw[sumF_app];omega
   ·rw[sumF_app];omega
def fV(l:List Pm):Nat:=if l=[] then 0 else sumF fP l+6
def gV(l:List Pm):Nat:=if l=[] then 0 else sumF gP l+2
theorem fV_le(l:List Pm):fV l≤sumF fP l+6∧gV l≤sumF gP l+2:=by
 unfold fV gV
 split
 ·omega
 ·omega
theorem vars_ln(n:Nat)(ts:List Tok):Ln fV gV 0 0 (varsT n ts) ts:=by
 unfold varsT
 split
 ·rename_i h
  have h1:=bw_text h (by decide)
  have h2:=bws_took ts
  have e3:(⟨#[118,97,114]⟩:ByteArray).size=3:=rfl
  intro l t2 e
  have h3:=varsL_ln n [] ts.tail l t2 e
  have h4:=fV_le l
  simp only[sumF] at h3
  omega
 ·exact Ln.ok (by simp[fV]) (by simp[gV])
theorem name_lnp(ts:List Tok):Ln fN gN 0 0 (nameT ts) ts:=by
 unfold nameT
 split
 ·rename_i h
  have h1:=bw_name h
  have h2:=bws_took ts
  exact Ln.ok (by unfold fN;omega) (by unfold gN;omega)
 ·exact Ln.error
theorem left_sum(ns:List ByteArray):(leftOf ns).length≤2+sumF fN ns∧(leftToks ns).length≤2+sumF gN ns:=by
 have h1 := between_sum' [44, 32] (fun n : ByteArray => n.data.toList) ns
 have h2:=betweenT_sum (sg [44]) (fun n=>[nmTok n]) ns
 have h3:sumF (fun x:ByteArray=>x.data.toList.length+([44,32]:List UInt8).length) ns≤sumF fN ns:=sumF_mono (fun x=>by have:=size_list x;unfold fN;simp only[lC,lN];omega) ns
 have h4:sumF (fun x:ByteArray=>([nmTok x]:List Tok).length+1) ns≤sumF gN ns:=sumF_mono (fun x=>by unfold gN;simp only[lC,lN];omega) ns
 constructor
 ·unfold leftOf
  split
  ·omega
  ·simp only[List.length_append,List.length_cons,List.length_nil];omega
 ·unfold leftToks nmsToks
  split
  ·omega
  ·simp only[List.length_append,List.length_cons,List.length_nil];omega
theorem eqR_ln(n op:Nat)(pl:Int)(ns:List ByteArray)(ts:List Tok):Ln fQ gQ (leftOf ns).length (leftToks ns).length (eqR n op pl ns ts) ts:=by
 unfold eqR
 refine want_ln (by decide) fun t1 h1=>Ln.then (pp_ln n 0 op t1) fun e t2 h2 h3=>want_ln (by decide) fun t3 h4=>?_
 have k1:fQ ⟨none,0,ns,pl,e⟩=(leftOf ns).length+5+fE e:=by
  unfold fQ fE
  rw[eqn_text]
  simp only[List.length_append,List.length_cons,List.length_nil]
  omega
 have k2:gQ ⟨none,0,ns,pl,e⟩=(leftToks ns).length+gE e:=by
  unfold gQ gE Eqn.toks
  simp only[List.length_append,List.length_cons,List.length_nil]
 exact Ln.ok (by omega) (by omega)
theorem eqT_ln(n op:Nat)(ts:List Tok):Ln fQ gQ 0 0 (eqT n op ts) ts:=by
 unfold eqT
 split
 ·rename_i h
  have h1:=bw_text h (by decide)
  have h2:=bws_took ts
  refine Ln.then (listT_ln name_lnp (by decide) n ts.tail) fun ns t1 l1 l2=>want_ln (by decide) fun t2 w1=>?_
  obtain⟨k1,k2⟩:=left_sum ns
  exact(eqR_ln n op _ ns t2).lift (by omega) (by omega)
 ·refine name_ln fun s t1 h1=>?_
  have k1:(leftOf [s]).length=s.size:=by
   show(between [44,32] [s.data.toList]).length=s.size
   simp only[between,rests,List.append_nil]
   exact size_list s
  have k2:(leftToks [s]).length=1:=rfl
  exact(eqR_ln n op _ [s] t1).lift (by omega) (by omega)
theorem eqs_ln(n op:Nat):∀k l ts,Ln (sumF fQ) (sumF gQ) (sumF fQ l) (sumF gQ l) (eqsL n op k l ts) ts
 | 0,_,_=>Ln.error
 | k+1,l,ts=>by
  unfold eqsL
  split
  ·have h2:=bws_took ts
   exact Ln.ok (by omega) (by omega)
  ·refine Ln.then (eqT_ln n op ts) fun q t1 h1 h2=>(eqs_ln n op k _ t1).lift ?_ ?_
   ·rw[sumF_app];omega
   ·rw[sumF_app];omega
theorem eqsText_sum(l:List Eqn):(eqsText l).length=sumF fQ l∧(eqsToks l).length=sumF gQ l:=by
 induction l with
 | nil=>exact⟨rfl,rfl⟩
 | cons q r ih =>
  simp only[eqsText,eqsToks] at ih
  simp only[eqsText,eqsToks,List.map_cons,List.flatten_cons,List.length_append,sumF,ih.1,ih.2]
  exact⟨rfl,rfl⟩
theorem pms_sum(l:List Pm):(pmsText l).length≤sumF fP l∧(pmsToks l).length≤sumF gP l :=
 ⟨between_sum' [59,32] Pm.text l,betweenT_sum (sg [59]) Pm.toks l⟩
theorem node_sum(fl:Bool)(nm:ByteArray)(pl:Int)(i o v:List Pm)(q:List Eqn):fD ⟨fl,nm,pl,none,0,i,none,0,o,none,0,v,none,0,q⟩≤nm.size+27+sumF fP i+sumF fP o+fV v+sumF fQ q∧gD ⟨fl,nm,pl,none,0,i,none,0,o,none,0,v,none,0,q⟩≤9+sumF gP i+sumF gP o+gV v+sumF gQ q:=by
 have h1:=pms_sum i
 have h2:=pms_sum o
 have h3:=pms_sum v
 have h4:=eqsText_sum q
 have hz:=size_list nm
 have e1:(if fl=true then ([102,108,111,119,32]:List UInt8) else [110,111,100,101,32]).length=5:=by split<;>rfl
 constructor
 ·have hv:(if v=[] then ([]:List UInt8) else [118,97,114,32]++pmsText v++[59,10]).length≤fV v:=by
   unfold fV
   split
   ·simp
   ·simp only[List.length_append,List.length_cons,List.length_nil];omega
  unfold fD Nd.text
  simp only[List.length_append,List.length_cons,List.length_nil]
  omega
 ·have hv:(varsToks v).length≤gV v:=by
   unfold gV varsToks
   split
   ·simp
   ·simp only[List.length_append,List.length_cons,List.length_nil];omega
  unfold gD Nd.toks
  simp only[List.length_append,List.length_cons,List.length_nil]
  omega
theorem node_ln(n op:Nat){ts:List Tok}(hi:isNode (hd ts)):Ln fD gD 0 0 (nodeT n op ts) ts:=by
 have h0:4+bws ts.tail≤bws ts:=by
  have h1:=bws_took ts
  have e1:(⟨#[110,111,100,101]⟩:ByteArray).size=4:=rfl
  have e2:(⟨#[102,108,111,119]⟩:ByteArray).size=4:=rfl
  rcases hi with h|h
  ·have:=bw_text h (by decide);omega
  ·have:=bw_text h (by decide);omega
 have e3:(⟨#[114,101,116,117,114,110,115]⟩:ByteArray).size=7:=rfl
 have e4:(⟨#[108,101,116]⟩:ByteArray).size=3:=rfl
 unfold nodeT
 refine name_ln fun s t1 h1=>Ln.then (f:=fun l=>2+sumF fP l+8) (g:=fun l=>6+sumF gP l) (m:=0) (n:=0) (t0:=t1) (fun l t2 e=>by have:=(params_ln (inOf_ln _) n t1).2 l t2 e;simp only;omega) fun i t2 i1 i2=>want_ln (by decide) fun t3 w1=>Ln.then (f:=fun l=>2+sumF fP l+8) (g:=fun l=>6+sumF gP l) (m:=0) (n:=0) (t0:=t3) (fun l t2 e=>by have:=(params_ln (outOf_ln _) n t3).2 l t2 e;simp only;omega) fun o t4 o1 o2=>Ln.then (vars_ln n t4) fun v t5 v1 v2=>want_ln (by decide) fun t6 w2=>Ln.then (eqs_ln n op n [] t6) fun q t7 q1 q2=>?_
 obtain⟨k1,k2⟩:=node_sum (isFlow (hd ts)) s (hd ts).place i o v q
 simp only[sumF] at q1 q2 i1 i2 o1 o2
 exact Ln.ok (by omega) (by omega)
theorem nodes_ln(n op:Nat):∀k l ts,Ln (sumF fD) (sumF gD) (sumF fD l) (sumF gD l) (nodesL n op k l ts) ts
 | 0,_,_=>Ln.error
 | k+1,l,ts=>by
  unfold nodesL
  split
  ·rename_i hi
   refine Ln.then (node_ln n op hi) fun q t1 h1 h2=>(nodes_ln n op k _ t1).lift ?_ ?_
   ·rw[sumF_app];omega
   ·rw[sumF_app];omega
  ·exact Ln.ok (Nat.le_refl _) (Nat.le_refl _)
theorem nds_sum(l:List Nd):(ndsText l).length=sumF fD l∧(ndsToks l).length=sumF gD l:=by
 induction l with
 | nil=>exact⟨rfl,rfl⟩
 | cons q r ih =>
  simp only[ndsText,ndsToks] at ih
  simp only[ndsText,ndsToks,List.map_cons,List.flatten_cons,List.length_append,sumF,ih.1,ih.2]
  exact⟨rfl,rfl⟩
theorem bws_app(a b:List Tok):bws (a++b)=bws a+bws b:=by
 induction a with
 | nil=>simp[bws]
 | cons t r ih=>simp only[List.cons_append,bws,ih];omega
theorem numVal_len{t:ByteArray}(hd:Digits t)(h0:0<t.size):(Lib.itoa ((numVal t:Nat):Int)).length≤t.size:=by
 rw[itoa_dec (by omega),show((numVal t:Nat):Int).toNat=numVal t from rfl]
 have h1:numVal t<10 ^ (t.size-1+1):=by
  rw[Nat.sub_add_cancel h0]
  unfold numVal
  split
  ·exact numTo_lt hd _ (Nat.le_refl _)
  ·exact Nat.pow_pos (by decide)
 have:=dec_digs _ _ h1
 omega
theorem tok_bw{s:ByteArray}{k:Nat}(hk:k<s.size)(he:(tokenOf s k).2=0):bw (tokenOf s k).1≤(tokenOf s k).1.text.size:=by
 obtain⟨h1,h2,h3⟩:=tok_size hk he
 have key:(tokenOf s k).1.kind=2→(Lib.itoa (tokenOf s k).1.int).length≤(tokenOf s k).1.text.size:=by
  unfold tokenOf at he h1 ⊢
  by_cases q1:letterB (byteAt s k)=true
  ·rw[if_pos q1] at he h1 ⊢
   by_cases q2:wordEnd s k-k≤32
   ·rw[if_pos q2]
    intro h
    simp only at h
    split at h<;>exact absurd h (by decide)
   ·rw[if_neg q2] at he;exact absurd he (by decide)
  ·rw[if_neg q1] at he h1 ⊢
   by_cases q2:digitB (byteAt s k)=true
   ·rw[if_pos q2] at he h1 ⊢
    by_cases q3:numOk (s.extract k (digitEnd s k))=true
    ·rw[if_pos q3] at h1 ⊢
     intro _
     exact numVal_len (digits_extract s k (by omega)) h1
    ·rw[if_neg q3] at he;exact absurd he (by decide)
   ·rw[if_neg q2]
    intro h
    cases hs:signAt s k signTexts<;>rw[hs] at h<;>exact absurd h (by simp[signTok])
 unfold bw
 split
 ·omega
 ·split
  ·rename_i h
   have:=key h
   omega
  ·omega
theorem scan_bws(s:ByteArray)(k:Nat)(acc:List Tok)(hk:k≤s.size)(h:(scanFrom s k acc).2.2=0):bws (scanFrom s k acc).1≤bws acc+(s.size-k):=by
 induction hm:s.size-k using Nat.strongRecOn generalizing k acc with
 | ind m ih =>
  by_cases h1:k<s.size
  ·by_cases h2:(tokenOf s k).2=0
   ·by_cases h3:acc.length+1<16384
    ·rw[←scan_step h1 h2 h3] at h ⊢
     have h4:=tok_on h1 h2
     obtain⟨h5,h6,-⟩:=tok_size h1 h2
     have h7:=afterTo_ge s (k+(tokenOf s k).1.text.size)
     have h8:=afterTo_le s (k+(tokenOf s k).1.text.size) h6
     have i1:=ih (s.size-afterTo s (k+(tokenOf s k).1.text.size)) (by omega) (afterTo s (k+(tokenOf s k).1.text.size)) (acc++[(tokenOf s k).1]) h8 h rfl
     have h9:=tok_bw h1 h2
     rw[bws_app] at i1
     simp only[bws] at i1
     omega
    ·rw[scan_full h1 h2 h3] at h;exact absurd (show(6:Int)=0 from h) (by decide)
   ·rw[scan_wrong h1 h2] at h;exact absurd h h2
  ·rw[scan_end h1,bws_app]
   have:bws [⟨0,⟨#[]⟩,0,s.size⟩]=0:=by
    simp only[bws,bw]
    simp
   rw[this]
   omega
theorem lex_bws{s:ByteArray}(h:(lexOf s).2.2=0):bws (lexOf s).1≤s.size:=by
 unfold lexOf at h ⊢
 by_cases hs:65536<s.size
 ·rw[if_pos hs] at h;exact absurd h (by decide)
 ·rw[if_neg hs] at h ⊢
  have:=scan_bws s _ [] (afterTo_le s 0 (by omega)) h
  simp only[bws] at this
  omega
theorem read_len{s:ByteArray}{l:List Nd}(h:progT s=.ok l):(ndsText l).length≤5*s.size∧(ndsToks l).length≤3*s.size:=by
 unfold progT readT at h
 split at h
 ·cases h
 ·rename_i he
  split at h
  ·cases h
  ·rename_i l' ts hq
   split at h
   ·cases h
   ·split at h
    ·cases h
    ·simp only[Except.ok.injEq] at h
     subst h
     have h1:=lex_bws (s:=s) (by omega)
     unfold wholeT at hq
     have h2:=nodes_ln _ 0 _ [] _ l' ts hq
     obtain⟨k1,k2⟩:=nds_sum l'
     simp only[sumF] at h2
     omega
theorem read_may{s:ByteArray}{l:List Nd}(h:progT s=.ok l):mayOf l=0:=by
 unfold progT readT at h
 split at h
 ·cases h
 ·split at h
  ·cases h
  ·split at h
   ·cases h
   ·split at h
    ·cases h
    ·rename_i hm
     simp only[Except.ok.injEq] at h
     subst h
     omega
theorem lex_few{l:List UInt8}{k:List Tok}(h:Lx Brk l k){s:ByteArray}(hs:s.data.toList=l)(hz:s.size≤65536)(hk:k.length<16384):(lexOf s).2.2=0:=by
 have H:=h s [] [] [] (by simpa using hs) (fun c hc=>by cases hc)
 obtain⟨ts,e,g⟩:=H.1 (by simpa using hk)
 have hl:l.length=s.size:=by rw[←hs];exact size_list s
 simp only[List.length_nil,Nat.zero_add,List.nil_append,hl] at g
 unfold lexOf
 rw[if_neg (by omega),g,afterTo_end (by omega),scan_end (by omega)]
end Go.Proofs.YthbgnpkgglbhjaaGreatDoor
