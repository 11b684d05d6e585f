/- errors.As at an error of the program that wraps a fault, and a variable for a fault: true, and the fault lies in the variable. -/
import Derived.Test.YtcgfpoaacalfbaaGreatDoorErrIs
namespace Go.Proofs.YtcgfpoaacalfbaaGreatDoor
open Go.RowKit Go.Extern.Stop Go.Stop Go.Extern

theorem Tryz.asUnpackP (t : Addr) (w : World) : (ReflectliteValue.unpack (.iface 53 (.pointer (some t)))).run Tryz.prog w = .ok (.agg #[.pointer (some ⟨7, 53, none⟩), .pointer (some ⟨w.heap.size, 0, none⟩), .int .u64 150]) (w.alloc (.cells #[.pointer (some t)] 53)) := by kernel_rfl
theorem Tryz.asTypeP (a : Addr) (w : World) : (ReflectliteValue.methodAny (ReflectliteValue.valueError "reflectlite.Value.Type" 0) (fun t _ _ _ => ReflectliteType.toType t) #[.agg #[.pointer (some ⟨7, 53, none⟩), .pointer (some a), .int .u64 150]]).run Tryz.prog w = .ok (.iface 85 (.agg #[.pointer (some ⟨7, 53, none⟩)])) w := by kernel_rfl
theorem Tryz.asMKind (h : Value) (w : World) : (Go.method 265 85 (.agg #[h]) "Kind").run Tryz.prog w = .ok (96, h) w := by kernel_rfl
theorem Tryz.asMElem (h : Value) (w : World) : (Go.method 265 85 (.agg #[h]) "Elem").run Tryz.prog w = .ok (110, .agg #[h]) w := by kernel_rfl
theorem Tryz.asMImpl (h : Value) (w : World) : (Go.method 265 85 (.agg #[h]) "Implements").run Tryz.prog w = .ok (111, .agg #[h]) w := by kernel_rfl
theorem Tryz.asMAssign (h : Value) (w : World) : (Go.method 265 85 (.agg #[h]) "AssignableTo").run Tryz.prog w = .ok (108, .agg #[h]) w := by kernel_rfl
/-- What stands in for (*abi.Type).Kind. -/
def kindEntry : Array Value → Sem Value := ReflectliteType.abiMethod fun t => do pure (.int .u8 (← Rtype.kind t))
theorem Tryz.asKindP (w : World) : (kindEntry #[.pointer (some ⟨7, 53, none⟩)]).run Tryz.prog w = .ok (.int .u8 22) w := by kernel_rfl
theorem Tryz.asKindF (w : World) : (kindEntry #[.pointer (some ⟨7, 30, none⟩)]).run Tryz.prog w = .ok (.int .u8 25) w := by kernel_rfl
theorem Tryz.asElemP (w : World) : (ReflectliteType.method ReflectliteType.elem #[.agg #[.pointer (some ⟨7, 53, none⟩)]]).run Tryz.prog w = .ok (.iface 85 (.agg #[.pointer (some ⟨7, 30, none⟩)])) w := by kernel_rfl
theorem Tryz.asImplF (w : World) : (ReflectliteType.relation "Implements" ReflectliteType.implements_ #[.agg #[.pointer (some ⟨7, 30, none⟩)], .iface 85 (.agg #[.pointer (some ⟨7, 25, none⟩)])]).run Tryz.prog w = .ok (.bool true) w := by kernel_rfl
theorem Tryz.asTypeOfF (v : Value) (w : World) : (ReflectliteType.typeOf #[.iface 30 v]).run Tryz.prog w = .ok (.iface 85 (.agg #[.pointer (some ⟨7, 30, none⟩)])) w := by kernel_rfl
theorem Tryz.asTypeOfW (v : Value) (w : World) : (ReflectliteType.typeOf #[.iface 62 v]).run Tryz.prog w = .ok (.iface 85 (.agg #[.pointer (some ⟨7, 62, none⟩)])) w := by kernel_rfl
theorem Tryz.asAssignF (w : World) : (ReflectliteType.relation "AssignableTo" ReflectliteType.assignableTo #[.agg #[.pointer (some ⟨7, 30, none⟩)], .iface 85 (.agg #[.pointer (some ⟨7, 30, none⟩)])]).run Tryz.prog w = .ok (.bool true) w := by kernel_rfl
theorem Tryz.asAssignW (w : World) : (ReflectliteType.relation "AssignableTo" ReflectliteType.assignableTo #[.agg #[.pointer (some ⟨7, 62, none⟩)], .iface 85 (.agg #[.pointer (some ⟨7, 30, none⟩)])]).run Tryz.prog w = .ok (.bool false) w := by kernel_rfl
theorem Tryz.asUnpackF (a b : Value) (w : World) : (ReflectliteValue.unpack (.iface 30 (.agg #[a, b]))).run Tryz.prog w = .ok (.agg #[.pointer (some ⟨7, 30, none⟩), .pointer (some ⟨w.heap.size, 0, none⟩), .int .u64 153]) (w.alloc (.cells #[a, b] 30)) := by kernel_rfl
theorem Tryz.noAsW (v : Value) (x : TypeId) (w : World) : (Instr.typeAssert (.iface 62 v) x 102 true).run Tryz.prog w = .ok (.tuple #[.nilIface, .bool false]) w := run_typeAssert_lacksB Tryz.underlying102 (by kernel_rfl) (by kernel_rfl) v x w
theorem Tryz.partsP (a : Addr) (w : World) : (ReflectliteValue.parts (.agg #[.pointer (some ⟨7, 53, none⟩), .pointer (some a), .int .u64 150])).run Tryz.prog w = .ok (some (53, a, 150)) w := by kernel_rfl
theorem Tryz.partsA (a : Addr) (w : World) : (ReflectliteValue.parts (.agg #[.pointer (some ⟨7, 30, none⟩), .pointer (some a), .int .u64 409])).run Tryz.prog w = .ok (some (30, a, 409)) w := by kernel_rfl
theorem Tryz.partsF (a : Addr) (w : World) : (ReflectliteValue.parts (.agg #[.pointer (some ⟨7, 30, none⟩), .pointer (some a), .int .u64 153])).run Tryz.prog w = .ok (some (30, a, 153)) w := by kernel_rfl
theorem Tryz.elemOfP (w : World) : (Rtype.elem? 53).run Tryz.prog w = .ok (some 30) w := by kernel_rfl
theorem Tryz.mkF (p : Addr) (w : World) : (ReflectliteValue.mk 30 p ReflectliteValue.flagAddr).run Tryz.prog w = .ok (.agg #[.pointer (some ⟨7, 30, none⟩), .pointer (some p), .int .u64 409]) w := by kernel_rfl
theorem Tryz.directF (w : World) : (Rtype.directlyAssignable 30 30).run Tryz.prog w = .ok true w := by kernel_rfl
/-- (Value).IsNil at a pointer that is not nil. -/
theorem Tryz.asIsNil (a p : Addr) (W : World) (ha : W.cell? a = some (.pointer (some p))) :
    (ReflectliteValue.method (ReflectliteValue.valueError "reflectlite.Value.IsNil" 0) ReflectliteValue.isNil #[.agg #[.pointer (some ⟨7, 53, none⟩), .pointer (some a), .int .u64 150]]).run Tryz.prog W = .ok (.bool false) W := by
  have e : ∀ v : Value, ReflectliteValue.method (ReflectliteValue.valueError "reflectlite.Value.IsNil" 0) ReflectliteValue.isNil #[v] = (ReflectliteValue.parts v >>= fun p => _) := fun v => rfl
  rw [e]
  simp only [Sem.run_bind, Tryz.partsP, Result.andThen]
  simp [ReflectliteValue.isNil, loadVar, isAgg, underlying, Tryz.underlying53, ha, Result.andThen]
/-- (Value).Elem at a pointer that is not nil. -/
theorem Tryz.asElemV (a p : Addr) (W : World) (ha : W.cell? a = some (.pointer (some p))) :
    (ReflectliteValue.method (ReflectliteValue.valueError "reflectlite.Value.Elem" 0) ReflectliteValue.elem #[.agg #[.pointer (some ⟨7, 53, none⟩), .pointer (some a), .int .u64 150]]).run Tryz.prog W = .ok (.agg #[.pointer (some ⟨7, 30, none⟩), .pointer (some p), .int .u64 409]) W := by
  have e : ∀ v : Value, ReflectliteValue.method (ReflectliteValue.valueError "reflectlite.Value.Elem" 0) ReflectliteValue.elem #[v] = (ReflectliteValue.parts v >>= fun p => _) := fun v => rfl
  rw [e]
  simp only [Sem.run_bind, Tryz.partsP, Result.andThen]
  simp [ReflectliteValue.elem, loadVar, isAgg, underlying, Tryz.underlying53, ha, Result.andThen, Tryz.elemOfP, Tryz.mkF]
theorem sizeF (w : World) : (sizeOf 30).run Tryz.prog w = .ok 2 w := by kernel_rfl
theorem aggF (w : World) : (isAgg 30).run Tryz.prog w = .ok true w := by kernel_rfl
theorem load2 (W : World) (b : Nat) (c0 c1 : Value) (h0 : W.cell? ⟨b, 0, none⟩ = some c0) (h1 : W.cell? ⟨b, 1, none⟩ = some c1) : (loadCells ⟨b, 0, none⟩ 2).run Tryz.prog W = .ok #[c0, c1] W := by
  simp [loadCells, loadCellsFrom, Addr.add, h0, h1, Result.andThen]
theorem store2 (W : World) (b : Nat) (x y : Int) (o0 o1 : Value) (g0 : W.cell? ⟨b, 0, none⟩ = some o0) (g1 : W.cell? ⟨b, 1, none⟩ = some o1) (f0 : W.frozen? ⟨b, 0, none⟩ = false) (f1 : W.frozen? ⟨b, 1, none⟩ = false) :
    (storeCells ⟨b, 0, none⟩ [.int .i64 x, .int .i64 y]).run Tryz.prog W = .ok () ((W.setCell ⟨b, 0, none⟩ (.int .i64 x)).setCell ⟨b, 1, none⟩ (.int .i64 y)) := by
  simp [storeCells, Addr.add, Result.andThen, go_sem, g0, g1, f0, f1]
/-- (Value).Set: the two cells of a fault. -/
theorem Tryz.asSet (ta tb : Nat) (x y : Int) (o0 o1 : Value) (W : World) (h0 : W.cell? ⟨tb, 0, none⟩ = some (.int .i64 x)) (h1 : W.cell? ⟨tb, 1, none⟩ = some (.int .i64 y)) (g0 : W.cell? ⟨ta, 0, none⟩ = some o0) (g1 : W.cell? ⟨ta, 1, none⟩ = some o1) (f0 : W.frozen? ⟨ta, 0, none⟩ = false) (f1 : W.frozen? ⟨ta, 1, none⟩ = false) :
    (ReflectliteValue.set #[.agg #[.pointer (some ⟨7, 30, none⟩), .pointer (some ⟨ta, 0, none⟩), .int .u64 409], .agg #[.pointer (some ⟨7, 30, none⟩), .pointer (some ⟨tb, 0, none⟩), .int .u64 153]]).run Tryz.prog W
      = .ok (.tuple #[]) ((W.setCell ⟨ta, 0, none⟩ (.int .i64 x)).setCell ⟨ta, 1, none⟩ (.int .i64 y)) := by
  have e : ∀ v x : Value, ReflectliteValue.set #[v, x] = (ReflectliteValue.parts v >>= fun p => ReflectliteValue.parts x >>= fun q => _) := fun v x => rfl
  rw [e]
  simp only [Sem.run_bind, Tryz.partsA, Tryz.partsF, Result.andThen]
  simp [ReflectliteValue.flagAddr, loadVar, Result.andThen, Tryz.directF, storeVar, Value.cells, load2 W tb _ _ h0 h1, store2 W ta x y o0 o1 g0 g1 f0 f1]
end Go.Proofs.YtcgfpoaacalfbaaGreatDoor
