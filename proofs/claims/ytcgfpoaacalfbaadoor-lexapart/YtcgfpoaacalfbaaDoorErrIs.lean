/- errors.Is at an error of the program that wraps a fault, which wraps its number, and a number: true just where the numbers are the same. -/
import Derived.Test.YtcgfpoaacalfbaaDoorLexRow
import Derived.LaidEql
import Derived.Stop.Asserts
import Derived.RowKitTokens
namespace Go.Proofs.YtcgfpoaacalfbaaDoor
open Go.RowKit Go.Extern.Stop Go.Stop Go.Extern

theorem Tryd.noTypeOf (v : Value) (w : World) : (Extern.ReflectliteType.typeOf #[.iface 35 v]).run Tryd.prog w = .ok (.iface 84 (.agg #[.pointer (some ⟨7, 35, none⟩)])) w := by kernel_rfl
/-- What stands in for (rtype).Comparable. -/
def compEntry : Array Value → Sem Value := ReflectliteType.method fun t => do Rtype.noPackHeld "Comparable" t; pure (.bool (← typeInfo t).comparable)
theorem Tryd.noComparable (w : World) : (compEntry #[.agg #[.pointer (some ⟨7, 35, none⟩)]]).run Tryd.prog w = .ok (.bool true) w := by kernel_rfl
theorem Tryd.rtComparable (v : Value) (w : World) : (Go.method 262 84 v "Comparable").run Tryd.prog w = .ok (108, v) w := by kernel_rfl
theorem Tryd.noEql (a b : Int) (w : World) : (binOp .eql 31 (.iface 35 (.int .i64 a)) (.iface 35 (.int .i64 b))).run Tryd.prog w = .ok (.bool (a == b)) w := by kernel_rfl
theorem Tryd.noIsN (v : Value) (x : TypeId) (w : World) : (Instr.typeAssert (.iface 35 v) x 86 true).run Tryd.prog w = .ok (.tuple #[.nilIface, .bool false]) w := run_typeAssert_lacksB Tryd.underlying86 (by kernel_rfl) (by kernel_rfl) v x w
theorem Tryd.noUnN (v : Value) (x : TypeId) (w : World) : (Instr.typeAssert (.iface 35 v) x 89 true).run Tryd.prog w = .ok (.tuple #[.nilIface, .bool false]) w := run_typeAssert_lacksB Tryd.underlying89 (by kernel_rfl) (by kernel_rfl) v x w
theorem Tryd.noUsN (v : Value) (x : TypeId) (w : World) : (Instr.typeAssert (.iface 35 v) x 91 true).run Tryd.prog w = .ok (.tuple #[.nilIface, .bool false]) w := run_typeAssert_lacksB Tryd.underlying91 (by kernel_rfl) (by kernel_rfl) v x w
theorem Tryd.noIsF (v : Value) (x : TypeId) (w : World) : (Instr.typeAssert (.iface 37 v) x 86 true).run Tryd.prog w = .ok (.tuple #[.nilIface, .bool false]) w := run_typeAssert_lacksB Tryd.underlying86 (by kernel_rfl) (by kernel_rfl) v x w
theorem Tryd.hasUnF (v : Value) (x : TypeId) (w : World) : (Instr.typeAssert (.iface 37 v) x 89 true).run Tryd.prog w = .ok (.tuple #[.iface 37 v, .bool true]) w := run_typeAssert_hasB Tryd.underlying89 (by kernel_rfl) v x w
theorem Tryd.unF (a b : Value) (w : World) : (Go.method 262 37 (.agg #[a, b]) "Unwrap").run Tryd.prog w = .ok (100, .agg #[a, b]) w := by kernel_rfl
theorem Tryd.noIsW (v : Value) (x : TypeId) (w : World) : (Instr.typeAssert (.iface 70 v) x 86 true).run Tryd.prog w = .ok (.tuple #[.nilIface, .bool false]) w := run_typeAssert_lacksB Tryd.underlying86 (by kernel_rfl) (by kernel_rfl) v x w
theorem Tryd.hasUnW (v : Value) (x : TypeId) (w : World) : (Instr.typeAssert (.iface 70 v) x 89 true).run Tryd.prog w = .ok (.tuple #[.iface 70 v, .bool true]) w := run_typeAssert_hasB Tryd.underlying89 (by kernel_rfl) v x w
theorem Tryd.unW (a b : Value) (w : World) : (Go.method 262 70 (.agg #[a, b]) "Unwrap").run Tryd.prog w = .ok (102, .agg #[a, b]) w := by kernel_rfl
attribute [local go_sem] later_size later_cell later_frozen later_setCell later_drew later_drewN later_tape drewN_setCell drewN_alloc drewN_later later_later lt_more lt_more1 lt_more2 lt_more3 lt_more4 lk0_0_1 lk1_0_1 lk2_0_1 lk0_0_2 lk1_0_2 lk2_0_2 lk0_1_2 lk0_0_3 lk1_0_3 lk2_0_3 lk0_1_3 lk0_2_3 lk0_0_4 lk1_0_4 lk2_0_4 lk0_1_4 lk0_2_4 lk0_3_4 lk0_0_5 lk1_0_5 lk2_0_5 lk0_1_5 lk0_2_5 lk0_3_5 lk0_4_5 lk0_0_6 lk1_0_6 lk2_0_6 lk0_1_6 lk0_2_6 lk0_3_6 lk0_4_6 lk0_5_6 lk0_0_7 lk1_0_7 lk2_0_7 lk0_1_7 lk0_2_7 lk0_3_7 lk0_4_7 lk0_5_7 lk0_6_7
set_option maxHeartbeats 1600000 in
theorem unF_calls (k n : Int) (w : World) : Calls Tryd.prog 100 #[.agg #[.int .i64 k, .int .i64 n]] w fun e w' => e = .returned (.iface 35 (.int .i64 n)) ∧ w' = w.alloc (.cells #[.int .i64 k, .int .i64 n] 37) := by
  go_enter Tryd.func100, Tryd.ntmps100
  go_wp2
  go_ret
  exact ⟨rfl, rfl⟩
set_option maxHeartbeats 1600000 in
theorem unW_calls (k n : Int) (w : World) : Calls Tryd.prog 102 #[.agg #[.int .i64 k, .int .i64 n]] w fun e w' => e = .returned (.iface 37 (.agg #[.int .i64 k, .int .i64 n])) ∧ w' = w.alloc (.cells #[.int .i64 k, .int .i64 n] 70) := by
  go_enter Tryd.func102, Tryd.ntmps102
  go_wp2
  go_ret
  exact ⟨rfl, rfl⟩
set_option maxHeartbeats 3200000 in
theorem is_calls (k e n : Int) (w : World) : Calls Tryd.prog 16 #[.iface 70 (.agg #[.int .i64 k, .int .i64 e]), .iface 35 (.int .i64 n)] w fun x w' => x = .returned (.bool (e == n)) ∧ Gr w w' := by
  have h1 := @run_callFunc_extern Tryd.prog 29 _ Extern.ReflectliteType.typeOf Tryd.func29 (by kernel_rfl) (by kernel_rfl) (by kernel_rfl) (by kernel_rfl)
  have h2 := @run_callFunc_extern Tryd.prog 108 _ compEntry Tryd.func108 (by kernel_rfl) (by kernel_rfl) (by kernel_rfl) (by kernel_rfl)
  have c1 := Tryd.noTypeOf
  have c2 := Tryd.noComparable
  have c3 := Tryd.rtComparable
  have c4 := Tryd.noEql
  have c5 := Tryd.noIsN
  have c6 := Tryd.noUnN
  have c7 := Tryd.noUsN
  have c8 := Tryd.noIsF
  have c9 := Tryd.hasUnF
  have c10 := Tryd.unF
  have c11 := Tryd.noIsW
  have c12 := Tryd.hasUnW
  have c13 := Tryd.unW
  have t1 := fun a b W => run_eql_iface_types (P := Tryd.prog) 70 35 a b Tryd.underlying31 (by decide) W
  have t2 := fun a b W => run_eql_iface_types (P := Tryd.prog) 37 35 a b Tryd.underlying31 (by decide) W
  by_cases he : e = n
  · have he' : (e == n) = true := by simpa using he
    go_enter Tryd.func16, Tryd.ntmps16
    go_wp2
    refine wp_loop_rounds 3 ?_
    rw [rounds_succ]
    go_wp2
    rw [rounds_succ]
    go_wp2
    rw [rounds_succ]
    go_wp2
    go_ret
    exact ⟨bool_ret he'.symm, (by repeat (first | (with_reducible exact Gr.refl _) | (with_reducible refine Gr.alloc ?_ _) | (with_reducible refine Gr.drewN ?_ _) | (with_reducible refine Gr.drew ?_) | (with_reducible refine Gr.later ?_ _ _)))⟩
  · have he' : (e == n) = false := by simpa using he
    go_enter Tryd.func16, Tryd.ntmps16
    go_wp2
    refine wp_loop_rounds 3 ?_
    rw [rounds_succ]
    go_wp2
    rw [rounds_succ]
    go_wp2
    rw [rounds_succ]
    go_wp2
    go_ret
    exact ⟨bool_ret he'.symm, (by repeat (first | (with_reducible exact Gr.refl _) | (with_reducible refine Gr.alloc ?_ _) | (with_reducible refine Gr.drewN ?_ _) | (with_reducible refine Gr.drew ?_) | (with_reducible refine Gr.later ?_ _ _)))⟩
end Go.Proofs.YtcgfpoaacalfbaaDoor
