import Derived.Test.YthbgnpkgglbhjaaGreatDoorLexSt
import Derived.Test.YthbgnpkgglbhjaaGreatDoorTreeKit
import Derived.RowKit
import Derived.RowKitTokens
import Derived.LaidLaws
import Derived.LaidHandle
import Derived.LaidMore
import Derived.Stop.Joined
import Derived.Stop.LaidErr
namespace Go.Proofs.YthbgnpkgglbhjaaGreatDoor
open Go.ChangeShapes Go.WideShapes Go.RowKit
def laid7 : List (String × DataW Unit) := [("math/bits.deBruijn32tab", Rows.laid_math_bits_deBruijn32tab), ("math/bits.deBruijn64tab", Rows.laid_math_bits_deBruijn64tab), ("internal/strconv.uint64pow10", Rows.laid_internal_strconv_uint64pow10), ("errors.errorType", Rows.laid_errors_errorType), ("strconv.ErrRange", Rows.laid_strconv_ErrRange), ("strconv.ErrSyntax", Rows.laid_strconv_ErrSyntax), ("carillon/tree.argCount", Rows.laid_carillon_tree_argCount)]
theorem Tryz.rangeVar:Tryz.prog.globalNamed "strconv.ErrRange"=some 2:=by kernel_rfl
theorem Tryz.rangeType:(Tryz.prog.globals[2]?).map (·.type)=some 40:=by kernel_rfl
theorem Tryz.errVar:Tryz.prog.globalNamed "errors.errorType"=some 0:=by kernel_rfl
theorem Tryz.errRtype:(Tryz.prog.cutTypes.find? (·.1== "internal/reflectlite.rtype")).map (·.2)=some 131:=by kernel_rfl
theorem Tryz.errRow:((List.range 261).filter fun t=>Tryz.prog.rowNamed t [101,114,114,111,114])=[40]:=by kernel_rfl
theorem Tryz.errTypes:Tryz.prog.types.size=261:=by kernel_rfl
theorem Tryz.errHandle:typeHandle Tryz.prog 40=.pointer (some ⟨7,40,none⟩):=by kernel_rfl
theorem seven_of{W:World}(h:laidMetH Tryz.prog laid7 W):RangeVar W∧HasTab W∧W.cell? ⟨0,0,none⟩=some (.iface 131 (.agg #[.pointer (some ⟨7,40,none⟩)])):=by
 have h':laidMet Tryz.prog [("math/bits.deBruijn32tab",Rows.laid_math_bits_deBruijn32tab),("math/bits.deBruijn64tab",Rows.laid_math_bits_deBruijn64tab),("internal/strconv.uint64pow10",Rows.laid_internal_strconv_uint64pow10),("strconv.ErrRange",Rows.laid_strconv_ErrRange),("strconv.ErrSyntax",Rows.laid_strconv_ErrSyntax),("carillon/tree.argCount",Rows.laid_carillon_tree_argCount)] W∧handlesMet Tryz.prog [("errors.errorType",Rows.laid_errors_errorType)] W:=h
 have k3:laidMet Tryz.prog [("strconv.ErrRange",Rows.laid_strconv_ErrRange),("strconv.ErrSyntax",Rows.laid_strconv_ErrSyntax),("carillon/tree.argCount",Rows.laid_carillon_tree_argCount)] W:=laidMet.tail (laidMet.tail (laidMet.tail h'.1))
 have k5:laidMet Tryz.prog [("carillon/tree.argCount",Rows.laid_carillon_tree_argCount)] W:=laidMet.tail (laidMet.tail k3)
 refine⟨?_,tab_of k5,?_⟩
 ·obtain⟨ps,⟨g0,t0,cs0,f0,p0,q0,hg0,ht0,hv0,hd0,_,e0⟩,_,hrows⟩:=k3
  obtain rfl:=Option.some.inj (Tryz.rangeVar.symm.trans hg0)
  obtain rfl:=Option.some.inj (Tryz.rangeType.symm.trans ht0)
  obtain⟨f,u,v,hcs,-,-⟩:=iface_of_trod Tryz.underlying40 hd0
  obtain⟨l0⟩:=cs0
  simp only at hcs
  subst hcs
  exact⟨.iface u v,by simpa using World.var?_cell Tryz.rangeVar hv0 0,.inr ⟨u,v,rfl⟩⟩
 ·obtain⟨name,u,ty,e1,e2,e3,e4,e5⟩:=h'.2 _ (List.mem_singleton.2 rfl)
  obtain rfl:name=[101,114,114,111,114]:=(Option.some.inj e1).symm
  obtain rfl:=Option.some.inj (Tryz.errRtype.symm.trans e2)
  have hm:ty∈(List.range 261).filter fun t=>Tryz.prog.rowNamed t [101,114,114,111,114]:=List.mem_filter.2 ⟨List.mem_range.2 (by rw[←Tryz.errTypes];exact e3),e4⟩
  rw[Tryz.errRow] at hm
  obtain rfl:=List.mem_singleton.1 hm
  rw[Tryz.errHandle] at e5
  simpa using World.var?_cell Tryz.errVar e5 0
set_option maxRecDepth 100000 in
theorem door7(os:Os)(args:Array Value):laidMetH Tryz.prog laid7 ((World.doorLaid Tryz.prog 400 os).forCall (fun _ _=>0) ⟨#[],args,[]⟩).memory :=
 laidMetH_of_parts (laidMet_of_run' 8 (by kernel_rfl) (by kernel_rfl)) (by kernel_rfl)
end Go.Proofs.YthbgnpkgglbhjaaGreatDoor
