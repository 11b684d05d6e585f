import Derived.Test.YthbgnpkgglbhjaaGreatDoorCards
import Derived.Test.YthbgnpkgglbhjaaGreatDoorTie
import Derived.Test.YthbgnpkgglbhjaaGreatDoorTreePart
import Derived.WalkKit
import Derived.ProofKit
import Derived.OpenShut
import Derived.Carry
import Derived.LaidMore
import Derived.Deep.DeepHandedRow
import Derived.Lib.LaidTab
namespace Go.Proofs.YthbgnpkgglbhjaaGreatDoor
open Go.ChangeShapes Go.WideShapes Go.ChangeAt Go.RowKit
open Ex.size Ex.depth Ex.lies Ex.bulk Ex.good
theorem gTab:Tryz.prog.globalNamed "carillon/tree.argCount"=some 3:=by kernel_rfl
theorem gTabType:(Tryz.prog.globals[3]?).map (·.type)=some 215:=by kernel_rfl
theorem cellsTab:Tryz.prog.cellsOf 215=27:=by kernel_rfl
theorem cellsInt:Tryz.prog.cellsOf 3=1:=by kernel_rfl
theorem table{W:World}(h:laidMetH Tryz.prog [("carillon/tree.argCount",Rows.laid_carillon_tree_argCount)] W):Lib.TabIs Tryz.prog W "carillon/tree.argCount" .i64 tabList :=
 Lib.tabIs_of_head (rest:=[]) gTab gTabType Tryz.underlying215 Tryz.underlying3 cellsInt cellsTab h
set_option maxRecDepth 100000 in
theorem tab_of{W:World}(h:laidMetH Tryz.prog [("carillon/tree.argCount",Rows.laid_carillon_tree_argCount)] W):HasTab W:=fun k hk=>by
 have t:=table h
 have:k=0∨k=1∨k=2∨k=3∨k=4∨k=5∨k=6∨k=7∨k=8∨k=9∨k=10∨k=11∨k=12∨k=13∨k=14∨k=15∨k=16∨k=17∨k=18∨k=19∨k=20∨k=21∨k=22∨k=23∨k=24∨k=25∨k=26:=by omega
 rcases this with rfl|rfl|rfl|rfl|rfl|rfl|rfl|rfl|rfl|rfl|rfl|rfl|rfl|rfl|rfl|rfl|rfl|rfl|rfl|rfl|rfl|rfl|rfl|rfl|rfl|rfl|rfl<;>exact t.cell gTab _ (by decide)
end Go.Proofs.YthbgnpkgglbhjaaGreatDoor
