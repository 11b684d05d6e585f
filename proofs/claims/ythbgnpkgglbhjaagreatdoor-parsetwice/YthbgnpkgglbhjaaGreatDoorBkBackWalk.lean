import Derived.Test.YthbgnpkgglbhjaaGreatDoorBk
import Derived.Test.YthbgnpkgglbhjaaGreatDoorRdAlives
import Derived.Test.YthbgnpkgglbhjaaGreatDoorRefProg
import Derived.Test.YthbgnpkgglbhjaaGreatDoorRefSameProg
import Derived.Deep.QuietTactic
import Derived.BigQuiet
import Derived.Deep.AppendLies
import Derived.OwnWalk
import Derived.Deep.Onto
import Derived.Deep.RegionHeld3
namespace Go.Proofs.YthbgnpkgglbhjaaGreatDoor
open Go.RowKit
open Ex.size Ex.depth Ex.lies Ex.bulk Ex.good Ex.shape Ex.text Ex.same Ex.bare
theorem read_same{w w':World}{l ls:List Nd}{a:Option Addr}{cap:Nat}{v:Value}(hg:Goods l)(hl:Lie w' a l)(hI:IsPr w.heap.size w' ls v)(hn:ls.map Nd.nop=l.map Nd.nop)(hbk:ndBulks ls≤1048576) :
  ∃a' n' cap',v=.agg #[.slice a' n' cap']∧∀W,Below w'.heap.size w' W→Calls Tryz.prog 13 #[.agg #[.slice a l.length cap],.agg #[.slice a' n' cap']] W fun x W'=>x=.returned (.bool true)∧Below W.heap.size W W':=by
 obtain⟨xs,a',cap',rfl,rfl,hrow⟩:=hI
 refine⟨a',xs.length,cap',rfl,fun W hW=>?_⟩
 obtain⟨h1,h2⟩:=row_prog hrow (by rw[←ndBulks_bare];exact hbk)
 have:=sameProgram_ref l xs a a' cap cap' hg h2 W (hl.below hW) (h1.below hW)
 rw[nds_same (by rw[←hn,nds_bare_nop])] at this
 exact this
theorem prog_bulk{s:ByteArray}{l:List Nd}(h:progT s=.ok l):ndBulks l≤1048576:=by
 unfold progT readT at h
 split at h
 ·cases h
 ·rename_i he
  split at h
  ·cases h
  ·rename_i l' ts hq
   split at h
   ·cases h
   ·split at h
    ·cases h
    ·simp only[Except.ok.injEq] at h
     subst h
     exact Nat.le_trans (whole_bulks hq) (Nat.le_trans (lex_ends s (by omega)).2 (by decide))
end Go.Proofs.YthbgnpkgglbhjaaGreatDoor
