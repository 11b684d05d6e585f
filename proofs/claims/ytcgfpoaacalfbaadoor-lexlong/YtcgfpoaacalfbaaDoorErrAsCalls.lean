/- errors.As at an error of the program that wraps a fault, and a variable for a fault: true, and the fault lies in the variable. -/
import Derived.Test.YtcgfpoaacalfbaaDoorErrAs
namespace Go.Proofs.YtcgfpoaacalfbaaDoor
open Go.RowKit Go.Extern.Stop Go.Stop Go.Extern
theorem set2_cells {A : World} {ta : Nat} {o0 o1 : Value} (h0 : A.cell? ⟨ta, 0, none⟩ = some o0) (h1 : A.cell? ⟨ta, 1, none⟩ = some o1) (k e : Int) :
    ((A.setCell ⟨ta, 0, none⟩ (.int .i64 k)).setCell ⟨ta, 1, none⟩ (.int .i64 e)).cell? ⟨ta, 0, none⟩ = some (.int .i64 k) ∧ ((A.setCell ⟨ta, 0, none⟩ (.int .i64 k)).setCell ⟨ta, 1, none⟩ (.int .i64 e)).cell? ⟨ta, 1, none⟩ = some (.int .i64 e) := by
  constructor
  · rw [World.cell?_setCell_other _ _ _ _ (by simp), World.cell?_setCell_same _ _ _ h0]
  · exact World.cell?_setCell_same _ _ _ (by rw [World.cell?_setCell_other _ _ _ _ (by simp)]; exact h1)
set_option maxHeartbeats 4000000 in
theorem as_calls (ta : Nat) (k e : Int) (o0 o1 : Value) (w : World) (hg : w.cell? ⟨0, 0, none⟩ = some (.iface 84 (.agg #[.pointer (some ⟨7, 31, none⟩)])))
    (ht0 : w.cell? ⟨ta, 0, none⟩ = some o0) (ht1 : w.cell? ⟨ta, 1, none⟩ = some o1) (hf0 : w.frozen? ⟨ta, 0, none⟩ = false) (hf1 : w.frozen? ⟨ta, 1, none⟩ = false) :
    Calls Tryd.prog 28 #[.iface 70 (.agg #[.int .i64 k, .int .i64 e]), .iface 60 (.pointer (some ⟨ta, 0, none⟩))] w fun ev w' => ev = .returned (.bool true) ∧ w'.cell? ⟨ta, 0, none⟩ = some (.int .i64 k) ∧ w'.cell? ⟨ta, 1, none⟩ = some (.int .i64 e) ∧ Below ta w w' := by
  have h1 := @run_callFunc_extern Tryd.prog 44 _ (fun args => ReflectliteValue.unpack (args.getD 0 (.tuple #[]))) Tryd.func44 (by kernel_rfl) (by kernel_rfl) (by kernel_rfl) (by kernel_rfl)
  have h2 := @run_callFunc_extern Tryd.prog 45 _ (ReflectliteValue.methodAny (ReflectliteValue.valueError "reflectlite.Value.Type" 0) (fun t _ _ _ => ReflectliteType.toType t)) Tryd.func45 (by kernel_rfl) (by kernel_rfl) (by kernel_rfl) (by kernel_rfl)
  have h3 := @run_callFunc_extern Tryd.prog 46 _ (ReflectliteValue.method (ReflectliteValue.valueError "reflectlite.Value.IsNil" 0) ReflectliteValue.isNil) Tryd.func46 (by kernel_rfl) (by kernel_rfl) (by kernel_rfl) (by kernel_rfl)
  have h4 := @run_callFunc_extern Tryd.prog 95 _ kindEntry Tryd.func95 (by kernel_rfl) (by kernel_rfl) (by kernel_rfl) (by kernel_rfl)
  have h5 := @run_callFunc_extern Tryd.prog 109 _ (ReflectliteType.method ReflectliteType.elem) Tryd.func109 (by kernel_rfl) (by kernel_rfl) (by kernel_rfl) (by kernel_rfl)
  have h6 := @run_callFunc_extern Tryd.prog 110 _ (ReflectliteType.relation "Implements" ReflectliteType.implements_) Tryd.func110 (by kernel_rfl) (by kernel_rfl) (by kernel_rfl) (by kernel_rfl)
  have h7 := @run_callFunc_extern Tryd.prog 29 _ ReflectliteType.typeOf Tryd.func29 (by kernel_rfl) (by kernel_rfl) (by kernel_rfl) (by kernel_rfl)
  have h8 := @run_callFunc_extern Tryd.prog 107 _ (ReflectliteType.relation "AssignableTo" ReflectliteType.assignableTo) Tryd.func107 (by kernel_rfl) (by kernel_rfl) (by kernel_rfl) (by kernel_rfl)
  have h9 := @run_callFunc_extern Tryd.prog 51 _ (ReflectliteValue.method (ReflectliteValue.valueError "reflectlite.Value.Elem" 0) ReflectliteValue.elem) Tryd.func51 (by kernel_rfl) (by kernel_rfl) (by kernel_rfl) (by kernel_rfl)
  have h10 := @run_callFunc_extern Tryd.prog 52 _ ReflectliteValue.set Tryd.func52 (by kernel_rfl) (by kernel_rfl) (by kernel_rfl) (by kernel_rfl)
  have c1 := Tryd.asUnpackP
  have c2 := Tryd.asTypeP
  have c3 := Tryd.asMKind
  have c4 := Tryd.asMElem
  have c5 := Tryd.asMImpl
  have c6 := Tryd.asMAssign
  have c7 := Tryd.asKindP
  have c8 := Tryd.asKindF
  have c9 := Tryd.asElemP
  have c10 := Tryd.asImplF
  have c11 := Tryd.asTypeOfF
  have c12 := Tryd.asTypeOfW
  have c13 := Tryd.asAssignF
  have c14 := Tryd.asAssignW
  have c15 := Tryd.asUnpackF
  have c16 := Tryd.noAsW
  have c17 := Tryd.hasUnW
  have c18 := Tryd.unW
  have hlt : 0 < w.heap.size := by
    rcases Nat.eq_zero_or_pos w.heap.size with h | h
    · simp [World.cell?, h] at hg
    · exact h
  have htl : ta < w.heap.size := by
    rcases Nat.lt_or_ge ta w.heap.size with h | h
    · exact h
    · simp [World.cell?, Array.getElem?_eq_none h] at ht0
  have n8 := Tryd.asIsNil ⟨w.heap.size, 0, none⟩ ⟨ta, 0, none⟩ ((w.alloc (.cells #[.pointer (some ⟨ta, 0, none⟩)] 60)).alloc (.cells #[.pointer (some ⟨7, 60, none⟩), .pointer (some ⟨w.heap.size, 0, none⟩), .int .u64 150] 76)) (by simp)
  have el := Tryd.asElemV ⟨w.heap.size, 0, none⟩ ⟨ta, 0, none⟩ ((((w.alloc (.cells #[.pointer (some ⟨ta, 0, none⟩)] 60)).alloc (.cells #[.pointer (some ⟨7, 60, none⟩), .pointer (some ⟨w.heap.size, 0, none⟩), .int .u64 150] 76)).alloc (.cells #[.pointer (some ⟨7, 60, none⟩), .pointer (some ⟨w.heap.size, 0, none⟩), .int .u64 150] 76)).alloc (.cells #[.int .i64 k, .int .i64 e] 70)) (by
    rw [World.cell?_alloc_lt _ _ ⟨w.heap.size, 0, none⟩ (by simp; omega), World.cell?_alloc_lt _ _ ⟨w.heap.size, 0, none⟩ (by simp; omega)]
    simp)
  have st0 : (((((w.alloc (.cells #[.pointer (some ⟨ta, 0, none⟩)] 60)).alloc (.cells #[.pointer (some ⟨7, 60, none⟩), .pointer (some ⟨w.heap.size, 0, none⟩), .int .u64 150] 76)).alloc (.cells #[.pointer (some ⟨7, 60, none⟩), .pointer (some ⟨w.heap.size, 0, none⟩), .int .u64 150] 76)).alloc (.cells #[.int .i64 k, .int .i64 e] 70)).alloc (.cells #[.int .i64 k, .int .i64 e] 37)).cell? ⟨ta, 0, none⟩ = some o0 := by rw [World.cell?_alloc_lt _ _ ⟨ta, 0, none⟩ (by simp; omega), World.cell?_alloc_lt _ _ ⟨ta, 0, none⟩ (by simp; omega), World.cell?_alloc_lt _ _ ⟨ta, 0, none⟩ (by simp; omega), World.cell?_alloc_lt _ _ ⟨ta, 0, none⟩ (by simp; omega), World.cell?_alloc_lt _ _ ⟨ta, 0, none⟩ htl]; exact ht0
  have st1 : (((((w.alloc (.cells #[.pointer (some ⟨ta, 0, none⟩)] 60)).alloc (.cells #[.pointer (some ⟨7, 60, none⟩), .pointer (some ⟨w.heap.size, 0, none⟩), .int .u64 150] 76)).alloc (.cells #[.pointer (some ⟨7, 60, none⟩), .pointer (some ⟨w.heap.size, 0, none⟩), .int .u64 150] 76)).alloc (.cells #[.int .i64 k, .int .i64 e] 70)).alloc (.cells #[.int .i64 k, .int .i64 e] 37)).cell? ⟨ta, 1, none⟩ = some o1 := by rw [World.cell?_alloc_lt _ _ ⟨ta, 1, none⟩ (by simp; omega), World.cell?_alloc_lt _ _ ⟨ta, 1, none⟩ (by simp; omega), World.cell?_alloc_lt _ _ ⟨ta, 1, none⟩ (by simp; omega), World.cell?_alloc_lt _ _ ⟨ta, 1, none⟩ (by simp; omega), World.cell?_alloc_lt _ _ ⟨ta, 1, none⟩ htl]; exact ht1
  have st := Tryd.asSet ta (w.heap.size + 1 + 1 + 1 + 1) k e o0 o1 (((((w.alloc (.cells #[.pointer (some ⟨ta, 0, none⟩)] 60)).alloc (.cells #[.pointer (some ⟨7, 60, none⟩), .pointer (some ⟨w.heap.size, 0, none⟩), .int .u64 150] 76)).alloc (.cells #[.pointer (some ⟨7, 60, none⟩), .pointer (some ⟨w.heap.size, 0, none⟩), .int .u64 150] 76)).alloc (.cells #[.int .i64 k, .int .i64 e] 70)).alloc (.cells #[.int .i64 k, .int .i64 e] 37))
    (by rw [World.cell?_alloc_at _ _ _ _ (by simp)]; rfl) (by rw [World.cell?_alloc_at _ _ _ _ (by simp)]; rfl)
    st0 st1 (by rw [World.frozen?_alloc_old _ _ ⟨ta, 0, none⟩ (by simp; omega), World.frozen?_alloc_old _ _ ⟨ta, 0, none⟩ (by simp; omega), World.frozen?_alloc_old _ _ ⟨ta, 0, none⟩ (by simp; omega), World.frozen?_alloc_old _ _ ⟨ta, 0, none⟩ (by simp; omega), World.frozen?_alloc_old _ _ ⟨ta, 0, none⟩ (Nat.ne_of_lt htl)]; exact hf0) (by rw [World.frozen?_alloc_old _ _ ⟨ta, 1, none⟩ (by simp; omega), World.frozen?_alloc_old _ _ ⟨ta, 1, none⟩ (by simp; omega), World.frozen?_alloc_old _ _ ⟨ta, 1, none⟩ (by simp; omega), World.frozen?_alloc_old _ _ ⟨ta, 1, none⟩ (by simp; omega), World.frozen?_alloc_old _ _ ⟨ta, 1, none⟩ (Nat.ne_of_lt htl)]; exact hf1)
  have hg2 : ((w.alloc (.cells #[.pointer (some ⟨ta, 0, none⟩)] 60)).alloc (.cells #[.pointer (some ⟨7, 60, none⟩), .pointer (some ⟨w.heap.size, 0, none⟩), .int .u64 150] 76)).cell? ⟨0, 0, none⟩ = some (.iface 84 (.agg #[.pointer (some ⟨7, 31, none⟩)])) := by
    rw [World.cell?_alloc_lt _ _ ⟨0, 0, none⟩ (by simp), World.cell?_alloc_lt _ _ ⟨0, 0, none⟩ hlt]; exact hg
  go_enter Tryd.func28, Tryd.ntmps28
  go_wp2
  refine wp_loop_rounds 2 ?_
  rw [rounds_succ]
  go_wp2
  rw [rounds_succ]
  go_wp2
  go_ret
  have hc := set2_cells st0 st1 k e
  refine ⟨rfl, hc.1, hc.2, ?_⟩
  exact ((((((((Below.refl ta w).alloc (by omega) _).alloc (by simp; omega) _).alloc (by simp; omega) _).alloc (by simp; omega) _).alloc (by simp; omega) _)).setCell (p := ⟨ta, 0, none⟩) (Nat.le_refl _) _).setCell (p := ⟨ta, 1, none⟩) (Nat.le_refl _) _
end Go.Proofs.YtcgfpoaacalfbaaDoor
