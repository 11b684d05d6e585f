/- The package variables that the rows lay (two tables of math/bits, one of strconv, its two errors, and errors.errorType): what the walks take of them; a world in which they lie so. -/
import Derived.Test.YtcgfpoaacalfbaaDoorRows
import Derived.Test.YtcgfpoaacalfbaaDoorLexRead
import Derived.RowKit
import Derived.RowKitTokens
import Derived.LaidLaws
import Derived.LaidHandle
import Derived.LaidMore
import Derived.Stop.Joined
import Derived.Stop.LaidErr
namespace Go.Proofs.YtcgfpoaacalfbaaDoor
open Go.ChangeShapes Go.WideShapes Go.RowKit
def laid5 : List (String × DataW Unit) := [("math/bits.deBruijn32tab", Rows.laid_math_bits_deBruijn32tab), ("math/bits.deBruijn64tab", Rows.laid_math_bits_deBruijn64tab), ("internal/strconv.uint64pow10", Rows.laid_internal_strconv_uint64pow10), ("strconv.ErrRange", Rows.laid_strconv_ErrRange), ("strconv.ErrSyntax", Rows.laid_strconv_ErrSyntax)]
def laid6 : List (String × DataW Unit) := [("math/bits.deBruijn32tab", Rows.laid_math_bits_deBruijn32tab), ("math/bits.deBruijn64tab", Rows.laid_math_bits_deBruijn64tab), ("internal/strconv.uint64pow10", Rows.laid_internal_strconv_uint64pow10), ("errors.errorType", Rows.laid_errors_errorType), ("strconv.ErrRange", Rows.laid_strconv_ErrRange), ("strconv.ErrSyntax", Rows.laid_strconv_ErrSyntax)]
theorem Tryd.rangeVar : Tryd.prog.globalNamed "strconv.ErrRange" = some 3 := by kernel_rfl
theorem Tryd.rangeType : (Tryd.prog.globals[3]?).map (·.type) = some 31 := by kernel_rfl
theorem Tryd.errVar : Tryd.prog.globalNamed "errors.errorType" = some 0 := by kernel_rfl
theorem Tryd.errRtype : (Tryd.prog.cutTypes.find? (·.1 == "internal/reflectlite.rtype")).map (·.2) = some 84 := by kernel_rfl
theorem Tryd.errRow : ((List.range 162).filter fun t => Tryd.prog.rowNamed t [101, 114, 114, 111, 114]) = [31] := by kernel_rfl
theorem Tryd.errTypes : Tryd.prog.types.size = 162 := by kernel_rfl
theorem Tryd.errHandle : typeHandle Tryd.prog 31 = .pointer (some ⟨7, 31, none⟩) := by kernel_rfl
/-- What the condition gives of strconv.ErrRange. -/
theorem range_of {W : World} (h : laidMet Tryd.prog laid5 W) : RangeVar W := by
  have h' : laidMet Tryd.prog [("strconv.ErrRange", Rows.laid_strconv_ErrRange), ("strconv.ErrSyntax", Rows.laid_strconv_ErrSyntax)] W := (laidMet.tail (laidMet.tail (laidMet.tail h)))
  obtain ⟨ps, ⟨g0, t0, cs0, f0, p0, q0, hg0, ht0, hv0, hd0, _, e0⟩, _, hrows⟩ := h'
  obtain rfl := Option.some.inj (Tryd.rangeVar.symm.trans hg0)
  obtain rfl := Option.some.inj (Tryd.rangeType.symm.trans ht0)
  obtain ⟨f, u, v, hcs, -, -⟩ := iface_of_trod Tryd.underlying31 hd0
  obtain ⟨l0⟩ := cs0
  simp only at hcs
  subst hcs
  exact ⟨.iface u v, by simpa using World.var?_cell Tryd.rangeVar hv0 0, .inr ⟨u, v, rfl⟩⟩
theorem range_of5 {W : World} (h : laidMetH Tryd.prog laid5 W) : RangeVar W := range_of h
/-- What the condition gives where errors.errorType is listed too. -/
theorem six_of {W : World} (h : laidMetH Tryd.prog laid6 W) : RangeVar W ∧ W.cell? ⟨0, 0, none⟩ = some (.iface 84 (.agg #[.pointer (some ⟨7, 31, none⟩)])) := by
  have h' : laidMet Tryd.prog laid5 W ∧ handlesMet Tryd.prog [("errors.errorType", Rows.laid_errors_errorType)] W := h
  refine ⟨range_of h'.1, ?_⟩
  obtain ⟨name, u, ty, e1, e2, e3, e4, e5⟩ := h'.2 _ (List.mem_singleton.2 rfl)
  obtain rfl : name = [101, 114, 114, 111, 114] := (Option.some.inj e1).symm
  obtain rfl := Option.some.inj (Tryd.errRtype.symm.trans e2)
  have hm : ty ∈ (List.range 162).filter fun t => Tryd.prog.rowNamed t [101, 114, 114, 111, 114] := List.mem_filter.2 ⟨List.mem_range.2 (by rw [← Tryd.errTypes]; exact e3), e4⟩
  rw [Tryd.errRow] at hm
  obtain rfl := List.mem_singleton.1 hm
  rw [Tryd.errHandle] at e5
  simpa using World.var?_cell Tryd.errVar e5 0
set_option maxRecDepth 100000 in
theorem door5 (os : Os) (args : Array Value) : laidMetH Tryd.prog laid5 ((World.doorLaid Tryd.prog 400 os).forCall (fun _ _ => 0) ⟨#[], args, []⟩).memory :=
  laidMetH_of_parts (laidMet_of_run' 8 (by kernel_rfl) (by kernel_rfl)) (by kernel_rfl)
set_option maxRecDepth 100000 in
theorem door6 (os : Os) (args : Array Value) : laidMetH Tryd.prog laid6 ((World.doorLaid Tryd.prog 400 os).forCall (fun _ _ => 0) ⟨#[], args, []⟩).memory :=
  laidMetH_of_parts (laidMet_of_run' 8 (by kernel_rfl) (by kernel_rfl)) (by kernel_rfl)
end Go.Proofs.YtcgfpoaacalfbaaDoor
