/-
  NARROWER THAN 'FOR EVERY INPUT', by the rows' own cells (each row's printed sentence says how): TreeSizes: loops, laid · TreeMay: loops, laid · TreeFar: laid · TreeSame: loops, laid · TreeCopies: loops, laid · TreeAdds: loops, laid.
  DERIVED. THE GIVEN ROWS OF THIS SEAT. 6 by the template 'for every input the law returns true; each argument reads behind the call as it read before'; 0 by the template 'total and deterministic' (their statements: YtbgndapaccdjoaaDoorTotals.lean).
  GIVEN WITH THE SEED: the statements are not yours to turn. If you find one false, say at which input.
  Laid BY PROGRAM, IN A SANDBOX (cutbox-rows.mjs): the forced cells as the released guide's own fill.sh prints them over the translation 0618cf0be761219b… (all of the seat's roots in one cut). By AI agents, Wed Nov 11 2026. No macro, syntax, notation, axiom, sorry.
-/
import Derived.Test.YtbgndapaccdjoaaDoorChecked
import GoSem.Claim
import GoSem.ClaimJoined
import GoSem.ClaimMapViews
import Derived.JoinedTies
import Derived.KernelRfl
namespace Go.Proofs.YtbgndapaccdjoaaDoor
/- THE CELL 'sum', in the pinned program and in every row, IS THE sha256 OF THE DUMP (.gsa) THAT YtbgndapaccdjoaaDoorProg.lean LOADS. Nothing in Lean hashes anything: it is a label: what it is worth is what the hold of that sum in a sandbox is worth. -/
noncomputable def Tryd.pinned : Pinned := { name := "ytbgndapaccdjoaadoor", sum := "0618cf0be761219b42d1d9d0b73fac62f5d173fda6b15ca3f74bb6a1f2399125", checked := Tryd.checked }
namespace Rows
def none {H : Type} : Left H := { results := [], args := [] }

/- WHAT THE LISTED PACKAGE-LEVEL VARIABLES READ AS WHEN THE CALL BEGINS. Each datum BY PROGRAM (the guide's laid-datum.mjs) off the statement by which the dump's own 'gosem.cut.vars' lays the variable. In a bare row this is a premise. The card (YtbgndapaccdjoaaDoorCards.lean) ties it to the program's text. -/
def laid_carillon_tree_argCount {H : Type} : DataW H := .agg [.lit (.int .i64 (-1)), .lit (.int .i64 0), .lit (.int .i64 0), .lit (.int .i64 0), .lit (.int .i64 (-2)), .lit (.int .i64 1), .lit (.int .i64 1), .lit (.int .i64 2), .lit (.int .i64 2), .lit (.int .i64 2), .lit (.int .i64 2), .lit (.int .i64 2), .lit (.int .i64 2), .lit (.int .i64 2), .lit (.int .i64 2), .lit (.int .i64 2), .lit (.int .i64 2), .lit (.int .i64 2), .lit (.int .i64 2), .lit (.int .i64 2), .lit (.int .i64 3), .lit (.int .i64 2), .lit (.int .i64 2), .lit (.int .i64 1), .lit (.int .i64 1), .lit (.int .i64 1), .lit (.int .i64 1)]

/-- 'carillonlaw04.TreeSizes': WHATEVER THE INPUT: true; the input reads as it did. -/
def treeSizesSpec : ChangeSpec := { name := "treeSizes", fn := fun _ => fun
  | [d] => { results := [.lit (.bool true)], args := [d] }
  | _ => none }
def treeSizesRow : OpenClaim := { program := "ytbgndapaccdjoaadoor", sum := "0618cf0be761219b42d1d9d0b73fac62f5d173fda6b15ca3f74bb6a1f2399125", func := "carillon/carillonlaw04.TreeSizes", spec := "treeSizes", unfollowed := true, recurses := true, named := ["carillon/tree.argCount"], loops := true, apart := false, laid := [("carillon/tree.argCount", laid_carillon_tree_argCount)] }
def TreeSizesSaid : Prop := treeSizesRow.holds Tryd.pinned (OpenSpec.ofChange treeSizesSpec)

/-- ITS FALSE NEIGHBOUR: 'it returns false'. Refute it at one input. -/
def treeSizesWrong : ChangeSpec := { name := "treeSizes", fn := fun _ => fun
  | [d] => { results := [.lit (.bool false)], args := [d] }
  | _ => none }
def TreeSizesWrongFalsely : Prop := treeSizesRow.holds Tryd.pinned (OpenSpec.ofChange treeSizesWrong)

/-- 'carillonlaw04.TreeMay': WHATEVER THE INPUT: true; the input reads as it did. -/
def treeMaySpec : ChangeSpec := { name := "treeMay", fn := fun _ => fun
  | [d] => { results := [.lit (.bool true)], args := [d] }
  | _ => none }
def treeMayRow : OpenClaim := { program := "ytbgndapaccdjoaadoor", sum := "0618cf0be761219b42d1d9d0b73fac62f5d173fda6b15ca3f74bb6a1f2399125", func := "carillon/carillonlaw04.TreeMay", spec := "treeMay", unfollowed := true, recurses := true, named := ["carillon/tree.argCount"], loops := true, apart := false, laid := [("carillon/tree.argCount", laid_carillon_tree_argCount)] }
def TreeMaySaid : Prop := treeMayRow.holds Tryd.pinned (OpenSpec.ofChange treeMaySpec)

/-- ITS FALSE NEIGHBOUR: 'it returns false'. Refute it at one input. -/
def treeMayWrong : ChangeSpec := { name := "treeMay", fn := fun _ => fun
  | [d] => { results := [.lit (.bool false)], args := [d] }
  | _ => none }
def TreeMayWrongFalsely : Prop := treeMayRow.holds Tryd.pinned (OpenSpec.ofChange treeMayWrong)

/-- 'carillonlaw04.TreeFar': WHATEVER THE INPUT: true; the input reads as it did. -/
def treeFarSpec : ChangeSpec := { name := "treeFar", fn := fun _ => fun
  | [d1, d2] => { results := [.lit (.bool true)], args := [d1, d2] }
  | _ => none }
def treeFarRow : OpenClaim := { program := "ytbgndapaccdjoaadoor", sum := "0618cf0be761219b42d1d9d0b73fac62f5d173fda6b15ca3f74bb6a1f2399125", func := "carillon/carillonlaw04.TreeFar", spec := "treeFar", unfollowed := true, recurses := true, named := ["carillon/tree.argCount"], apart := false, laid := [("carillon/tree.argCount", laid_carillon_tree_argCount)] }
def TreeFarSaid : Prop := treeFarRow.holds Tryd.pinned (OpenSpec.ofChange treeFarSpec)

/-- ITS FALSE NEIGHBOUR: 'it returns false'. Refute it at one input. -/
def treeFarWrong : ChangeSpec := { name := "treeFar", fn := fun _ => fun
  | [d1, d2] => { results := [.lit (.bool false)], args := [d1, d2] }
  | _ => none }
def TreeFarWrongFalsely : Prop := treeFarRow.holds Tryd.pinned (OpenSpec.ofChange treeFarWrong)

/-- 'carillonlaw04.TreeSame': WHATEVER THE INPUT: true; the input reads as it did. -/
def treeSameSpec : ChangeSpec := { name := "treeSame", fn := fun _ => fun
  | [d1, d2, d3, d4] => { results := [.lit (.bool true)], args := [d1, d2, d3, d4] }
  | _ => none }
def treeSameRow : OpenClaim := { program := "ytbgndapaccdjoaadoor", sum := "0618cf0be761219b42d1d9d0b73fac62f5d173fda6b15ca3f74bb6a1f2399125", func := "carillon/carillonlaw04.TreeSame", spec := "treeSame", unfollowed := true, recurses := true, named := ["carillon/tree.argCount"], loops := true, apart := false, laid := [("carillon/tree.argCount", laid_carillon_tree_argCount)] }
def TreeSameSaid : Prop := treeSameRow.holds Tryd.pinned (OpenSpec.ofChange treeSameSpec)

/-- ITS FALSE NEIGHBOUR: 'it returns false'. Refute it at one input. -/
def treeSameWrong : ChangeSpec := { name := "treeSame", fn := fun _ => fun
  | [d1, d2, d3, d4] => { results := [.lit (.bool false)], args := [d1, d2, d3, d4] }
  | _ => none }
def TreeSameWrongFalsely : Prop := treeSameRow.holds Tryd.pinned (OpenSpec.ofChange treeSameWrong)

/-- 'carillonlaw04.TreeCopies': WHATEVER THE INPUT: true; the input reads as it did. -/
def treeCopiesSpec : ChangeSpec := { name := "treeCopies", fn := fun _ => fun
  | [d] => { results := [.lit (.bool true)], args := [d] }
  | _ => none }
def treeCopiesRow : OpenClaim := { program := "ytbgndapaccdjoaadoor", sum := "0618cf0be761219b42d1d9d0b73fac62f5d173fda6b15ca3f74bb6a1f2399125", func := "carillon/carillonlaw04.TreeCopies", spec := "treeCopies", unfollowed := true, recurses := true, named := ["carillon/tree.argCount"], loops := true, apart := false, laid := [("carillon/tree.argCount", laid_carillon_tree_argCount)] }
def TreeCopiesSaid : Prop := treeCopiesRow.holds Tryd.pinned (OpenSpec.ofChange treeCopiesSpec)

/-- ITS FALSE NEIGHBOUR: 'it returns false'. Refute it at one input. -/
def treeCopiesWrong : ChangeSpec := { name := "treeCopies", fn := fun _ => fun
  | [d] => { results := [.lit (.bool false)], args := [d] }
  | _ => none }
def TreeCopiesWrongFalsely : Prop := treeCopiesRow.holds Tryd.pinned (OpenSpec.ofChange treeCopiesWrong)

/-- 'carillonlaw04.TreeAdds': WHATEVER THE INPUT: true; the input reads as it did. -/
def treeAddsSpec : ChangeSpec := { name := "treeAdds", fn := fun _ => fun
  | [d] => { results := [.lit (.bool true)], args := [d] }
  | _ => none }
def treeAddsRow : OpenClaim := { program := "ytbgndapaccdjoaadoor", sum := "0618cf0be761219b42d1d9d0b73fac62f5d173fda6b15ca3f74bb6a1f2399125", func := "carillon/carillonlaw04.TreeAdds", spec := "treeAdds", unfollowed := true, recurses := true, named := ["carillon/tree.argCount"], loops := true, apart := false, laid := [("carillon/tree.argCount", laid_carillon_tree_argCount)] }
def TreeAddsSaid : Prop := treeAddsRow.holds Tryd.pinned (OpenSpec.ofChange treeAddsSpec)

/-- ITS FALSE NEIGHBOUR: 'it returns false'. Refute it at one input. -/
def treeAddsWrong : ChangeSpec := { name := "treeAdds", fn := fun _ => fun
  | [d] => { results := [.lit (.bool false)], args := [d] }
  | _ => none }
def TreeAddsWrongFalsely : Prop := treeAddsRow.holds Tryd.pinned (OpenSpec.ofChange treeAddsWrong)

/- THE SECOND FORM. 'bulk': how many values and letters a reading holds, each counted each time it is reached (what is shared counts as often as it is met; a slice's spare places count too). A statement '..UptoSaid' is the law's where the arguments, and the package variables that the reading takes, are together of bulk at most 1048576: NARROWER than '..Said'. Prove '..Said' where nothing that the law and all that it calls make is longer than what came in: it says more and counts as full. Else prove '..UptoSaid'. A law counts once. -/
mutual
def uptoBulk {H : Type} : DataW H → Nat
  | .lit (.string bytes) => bytes.length + 1
  | .lit _ => 1
  | .nil => 1
  | .ptr d => uptoBulk d + 1
  | .slice elems spare => uptoBulkAll elems + uptoBulkAll spare + 1
  | .agg parts => uptoBulkAll parts + 1
  | .iface _ d => uptoBulk d + 1
  | .map entries => uptoBulkEntries entries + 1
  | .held _ => 1
def uptoBulkAll {H : Type} : List (DataW H) → Nat
  | [] => 0
  | d :: r => uptoBulk d + uptoBulkAll r
def uptoBulkEntries {H : Type} : List (Lit × DataW H) → Nat
  | [] => 0
  | x :: r => uptoBulkEntry x + uptoBulkEntries r
def uptoBulkEntry {H : Type} : Lit × DataW H → Nat
  | (.string bytes, d) => bytes.length + uptoBulk d + 1
  | (_, d) => uptoBulk d + 1
 end
def uptoSmall : (H : Type) → List (DataW H) → Bool := fun _ ds => decide (uptoBulkAll ds ≤ 1048576)
def OpenSpec.upto (s : _root_.Go.ChangeSpec) : _root_.Go.OpenSpec := { _root_.Go.OpenSpec.ofChange s with cond := some uptoSmall }

/-- 'carillonlaw04.TreeSizes', WHERE WHAT IT READS IS OF BULK AT MOST 1048576: true; the input reads as it did. -/
def treeSizesUptoRow : OpenClaim := { program := "ytbgndapaccdjoaadoor", sum := "0618cf0be761219b42d1d9d0b73fac62f5d173fda6b15ca3f74bb6a1f2399125", func := "carillon/carillonlaw04.TreeSizes", spec := "treeSizes", unfollowed := true, recurses := true, named := ["carillon/tree.argCount"], loops := true, apart := false, laid := [("carillon/tree.argCount", laid_carillon_tree_argCount)], narrowed := true }
def TreeSizesUptoSaid : Prop := treeSizesUptoRow.holds Tryd.pinned (OpenSpec.upto treeSizesSpec)

/-- 'carillonlaw04.TreeMay', WHERE WHAT IT READS IS OF BULK AT MOST 1048576: true; the input reads as it did. -/
def treeMayUptoRow : OpenClaim := { program := "ytbgndapaccdjoaadoor", sum := "0618cf0be761219b42d1d9d0b73fac62f5d173fda6b15ca3f74bb6a1f2399125", func := "carillon/carillonlaw04.TreeMay", spec := "treeMay", unfollowed := true, recurses := true, named := ["carillon/tree.argCount"], loops := true, apart := false, laid := [("carillon/tree.argCount", laid_carillon_tree_argCount)], narrowed := true }
def TreeMayUptoSaid : Prop := treeMayUptoRow.holds Tryd.pinned (OpenSpec.upto treeMaySpec)

/-- 'carillonlaw04.TreeFar', WHERE WHAT IT READS IS OF BULK AT MOST 1048576: true; the input reads as it did. -/
def treeFarUptoRow : OpenClaim := { program := "ytbgndapaccdjoaadoor", sum := "0618cf0be761219b42d1d9d0b73fac62f5d173fda6b15ca3f74bb6a1f2399125", func := "carillon/carillonlaw04.TreeFar", spec := "treeFar", unfollowed := true, recurses := true, named := ["carillon/tree.argCount"], apart := false, laid := [("carillon/tree.argCount", laid_carillon_tree_argCount)], narrowed := true }
def TreeFarUptoSaid : Prop := treeFarUptoRow.holds Tryd.pinned (OpenSpec.upto treeFarSpec)

/-- 'carillonlaw04.TreeSame', WHERE WHAT IT READS IS OF BULK AT MOST 1048576: true; the input reads as it did. -/
def treeSameUptoRow : OpenClaim := { program := "ytbgndapaccdjoaadoor", sum := "0618cf0be761219b42d1d9d0b73fac62f5d173fda6b15ca3f74bb6a1f2399125", func := "carillon/carillonlaw04.TreeSame", spec := "treeSame", unfollowed := true, recurses := true, named := ["carillon/tree.argCount"], loops := true, apart := false, laid := [("carillon/tree.argCount", laid_carillon_tree_argCount)], narrowed := true }
def TreeSameUptoSaid : Prop := treeSameUptoRow.holds Tryd.pinned (OpenSpec.upto treeSameSpec)

/-- 'carillonlaw04.TreeCopies', WHERE WHAT IT READS IS OF BULK AT MOST 1048576: true; the input reads as it did. -/
def treeCopiesUptoRow : OpenClaim := { program := "ytbgndapaccdjoaadoor", sum := "0618cf0be761219b42d1d9d0b73fac62f5d173fda6b15ca3f74bb6a1f2399125", func := "carillon/carillonlaw04.TreeCopies", spec := "treeCopies", unfollowed := true, recurses := true, named := ["carillon/tree.argCount"], loops := true, apart := false, laid := [("carillon/tree.argCount", laid_carillon_tree_argCount)], narrowed := true }
def TreeCopiesUptoSaid : Prop := treeCopiesUptoRow.holds Tryd.pinned (OpenSpec.upto treeCopiesSpec)

/-- 'carillonlaw04.TreeAdds', WHERE WHAT IT READS IS OF BULK AT MOST 1048576: true; the input reads as it did. -/
def treeAddsUptoRow : OpenClaim := { program := "ytbgndapaccdjoaadoor", sum := "0618cf0be761219b42d1d9d0b73fac62f5d173fda6b15ca3f74bb6a1f2399125", func := "carillon/carillonlaw04.TreeAdds", spec := "treeAdds", unfollowed := true, recurses := true, named := ["carillon/tree.argCount"], loops := true, apart := false, laid := [("carillon/tree.argCount", laid_carillon_tree_argCount)], narrowed := true }
def TreeAddsUptoSaid : Prop := treeAddsUptoRow.holds Tryd.pinned (OpenSpec.upto treeAddsSpec)

end Rows
end Go.Proofs.YtbgndapaccdjoaaDoor
