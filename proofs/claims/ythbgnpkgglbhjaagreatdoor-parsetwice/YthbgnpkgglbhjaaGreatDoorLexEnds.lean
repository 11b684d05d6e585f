import Derived.Test.YthbgnpkgglbhjaaGreatDoorRdSpec
import Derived.WalkArith
namespace Go.Proofs.YthbgnpkgglbhjaaGreatDoor
open Go.RowKit Go.WalkArith
def wt:List Tok→Nat
 | []=>0
 | t::r=>1+t.text.size+wt r
theorem wt_app(a b:List Tok):wt (a++b)=wt a+wt b:=by
 induction a with
 | nil=>simp[wt]
 | cons t r ih=>simp only[List.cons_append,wt,ih];omega
theorem numVal_top(t:ByteArray):numVal t≤9223372036854775807:=by
 unfold numVal
 by_cases h:numOk t=true
 ·rw[if_pos h]
  simp only[numOk,decide_eq_true_eq] at h
  exact h.2.2
 ·rw[if_neg h];omega
theorem tok_int(s:ByteArray)(k:Nat):0≤(tokenOf s k).1.int∧(tokenOf s k).1.int≤9223372036854775807:=by
 unfold tokenOf
 split
 ·split<;>simp
 ·split
  ·split
   ·have:=numVal_top (s.extract k (digitEnd s k))
    refine⟨?_,?_⟩<;>simp only<;>omega
   ·simp
  ·cases signAt s k signTexts<;>simp[signTok]
theorem tok_fine{s:ByteArray}{k:Nat}(hs:s.size≤65536)(hk:k<s.size)(he:(tokenOf s k).2=0):(tokenOf s k).1.fine:=by
 obtain⟨h1,h2,h3⟩:=tok_size hk he
 have h4:=tok_int s k
 exact⟨by omega,wf_i64 (by omega),wf_i64 (by omega)⟩
theorem scan_ends(s:ByteArray)(hs:s.size≤65536)(k:Nat)(acc:List Tok)(ha:∀t∈acc,t.fine)(h:(scanFrom s k acc).2.2=0):(∃l e,(scanFrom s k acc).1=l++[e]∧e.kind=0∧e.text=⟨#[]⟩)∧(∀t∈(scanFrom s k acc).1,t.fine)∧wt (scanFrom s k acc).1≤wt acc+2*(s.size-k)+1:=by
 induction hm:s.size-k using Nat.strongRecOn generalizing k acc with
 | ind m ih =>
  by_cases h1:k<s.size
  ·by_cases h2:(tokenOf s k).2=0
   ·by_cases h3:acc.length+1<16384
    ·rw[←scan_step h1 h2 h3] at h ⊢
     have h4:=tok_on h1 h2
     obtain⟨h5,h6,-⟩:=tok_size h1 h2
     have h7:=afterTo_ge s (k+(tokenOf s k).1.text.size)
     obtain⟨i1,i2,i3⟩:=ih (s.size-afterTo s (k+(tokenOf s k).1.text.size)) (by omega) (afterTo s (k+(tokenOf s k).1.text.size)) (acc++[(tokenOf s k).1]) (fun t ht=>by
      rcases List.mem_append.1 ht with ht|ht
      ·exact ha t ht
      ·rw[List.mem_singleton.1 ht];exact tok_fine hs h1 h2) h rfl
     refine⟨i1,i2,?_⟩
     rw[wt_app] at i3
     simp only[wt] at i3
     omega
    ·rw[scan_full h1 h2 h3] at h;simp at h
   ·rw[scan_wrong h1 h2] at h;exact absurd h h2
  ·rw[scan_end h1]
   refine⟨⟨acc,_,rfl,rfl,rfl⟩,fun t ht=>?_,?_⟩
   ·rcases List.mem_append.1 ht with ht|ht
    ·exact ha t ht
    ·rw[List.mem_singleton.1 ht]
     exact⟨by show(0:Nat)≤_;omega,by show(Lit.int .i64 0).wf=true;decide,by show(Lit.int .i64 (s.size:Int)).wf=true;exact wf_i64 (by omega)⟩
   ·simp only[wt_app,wt]
    have:(⟨#[]⟩:ByteArray).size=0:=rfl
    omega
theorem lex_ends(s:ByteArray)(h:(lexOf s).2.2=0):Ends (lexOf s).1∧wt (lexOf s).1≤131073:=by
 have hl:=lex_len s
 unfold lexOf at h hl ⊢
 by_cases hs:65536<s.size
 ·rw[if_pos hs] at h;simp at h
 ·rw[if_neg hs] at h hl ⊢
  obtain⟨h1,h2,h3⟩:=scan_ends s (by omega) _ [] (by simp) h
  exact⟨⟨h1,h2,by omega⟩,by simp only[wt] at h3;omega⟩
end Go.Proofs.YthbgnpkgglbhjaaGreatDoor
