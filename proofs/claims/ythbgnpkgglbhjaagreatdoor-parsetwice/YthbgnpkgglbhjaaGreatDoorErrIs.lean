import Derived.Test.YthbgnpkgglbhjaaGreatDoorLexSome
import Derived.LaidEql
import Derived.Stop.Asserts
import Derived.RowKitTokens
namespace Go.Proofs.YthbgnpkgglbhjaaGreatDoor
open Go.RowKit Go.Extern.Stop Go.Stop Go.Extern
theorem Tryz.noTypeOf(v:Value)(w:World):(Extern.ReflectliteType.typeOf #[.iface 34 v]).run Tryz.prog w=.ok (.iface 131 (.agg #[.pointer (some ⟨7,34,none⟩)])) w:=by kernel_rfl
def compEntry:Array Value→Sem Value:=ReflectliteType.method fun t=>do Rtype.noPackHeld "Comparable" t;pure (.bool (←typeInfo t).comparable)
theorem Tryz.noComparable(w:World):(compEntry #[.agg #[.pointer (some ⟨7,34,none⟩)]]).run Tryz.prog w=.ok (.bool true) w:=by kernel_rfl
theorem Tryz.rtComparable(v:Value)(w:World):(Go.method 361 131 v "Comparable").run Tryz.prog w=.ok (205,v) w:=by kernel_rfl
theorem Tryz.noEql(a b:Int)(w:World):(binOp .eql 40 (.iface 34 (.int .i64 a)) (.iface 34 (.int .i64 b))).run Tryz.prog w=.ok (.bool (a==b)) w:=by kernel_rfl
theorem Tryz.noIsN(v:Value)(x:TypeId)(w:World):(Instr.typeAssert (.iface 34 v) x 133 true).run Tryz.prog w=.ok (.tuple #[.nilIface,.bool false]) w:=run_typeAssert_lacksB Tryz.underlying133 (by kernel_rfl) (by kernel_rfl) v x w
theorem Tryz.noUnN(v:Value)(x:TypeId)(w:World):(Instr.typeAssert (.iface 34 v) x 136 true).run Tryz.prog w=.ok (.tuple #[.nilIface,.bool false]) w:=run_typeAssert_lacksB Tryz.underlying136 (by kernel_rfl) (by kernel_rfl) v x w
theorem Tryz.noUsN(v:Value)(x:TypeId)(w:World):(Instr.typeAssert (.iface 34 v) x 138 true).run Tryz.prog w=.ok (.tuple #[.nilIface,.bool false]) w:=run_typeAssert_lacksB Tryz.underlying138 (by kernel_rfl) (by kernel_rfl) v x w
theorem Tryz.noIsF(v:Value)(x:TypeId)(w:World):(Instr.typeAssert (.iface 36 v) x 133 true).run Tryz.prog w=.ok (.tuple #[.nilIface,.bool false]) w:=run_typeAssert_lacksB Tryz.underlying133 (by kernel_rfl) (by kernel_rfl) v x w
theorem Tryz.hasUnF(v:Value)(x:TypeId)(w:World):(Instr.typeAssert (.iface 36 v) x 136 true).run Tryz.prog w=.ok (.tuple #[.iface 36 v,.bool true]) w:=run_typeAssert_hasB Tryz.underlying136 (by kernel_rfl) v x w
theorem Tryz.unF(a b:Value)(w:World):(Go.method 361 36 (.agg #[a,b]) "Unwrap").run Tryz.prog w=.ok (199,.agg #[a,b]) w:=by kernel_rfl
theorem Tryz.noIsW(v:Value)(x:TypeId)(w:World):(Instr.typeAssert (.iface 154 v) x 133 true).run Tryz.prog w=.ok (.tuple #[.nilIface,.bool false]) w:=run_typeAssert_lacksB Tryz.underlying133 (by kernel_rfl) (by kernel_rfl) v x w
theorem Tryz.hasUnW(v:Value)(x:TypeId)(w:World):(Instr.typeAssert (.iface 154 v) x 136 true).run Tryz.prog w=.ok (.tuple #[.iface 154 v,.bool true]) w:=run_typeAssert_hasB Tryz.underlying136 (by kernel_rfl) v x w
theorem Tryz.unW(a b c:Value)(w:World):(Go.method 361 154 (.agg #[a,b,c]) "Unwrap").run Tryz.prog w=.ok (215,.agg #[a,b,c]) w:=by kernel_rfl
set_option maxHeartbeats 3200000 in
theorem is_calls(m:ByteArray)(k e n:Int)(w:World):Calls Tryz.prog 19 #[.iface 154 (.agg #[.string m,.int .i64 k,.int .i64 e]),.iface 34 (.int .i64 n)] w fun x w'=>x=.returned (.bool (e==n))∧Gr w w':=by
 have h1:=@run_callFunc_extern Tryz.prog 39 _ Extern.ReflectliteType.typeOf Tryz.func39 (by kernel_rfl) (by kernel_rfl) (by kernel_rfl) (by kernel_rfl)
 have h2:=@run_callFunc_extern Tryz.prog 205 _ compEntry Tryz.func205 (by kernel_rfl) (by kernel_rfl) (by kernel_rfl) (by kernel_rfl)
 have c1:=Tryz.noTypeOf
 have c2:=Tryz.noComparable
 have c3:=Tryz.rtComparable
 have c4:=Tryz.noEql
 have c5:=Tryz.noIsN
 have c6:=Tryz.noUnN
 have c7:=Tryz.noUsN
 have c8:=Tryz.noIsF
 have c9:=Tryz.hasUnF
 have c10:=Tryz.unF
 have c11:=Tryz.noIsW
 have c12:=Tryz.hasUnW
 have c13:=Tryz.unW
 have t1:=fun a b W=>run_eql_iface_types (P:=Tryz.prog) 154 34 a b Tryz.underlying40 (by decide) W
 have t2:=fun a b W=>run_eql_iface_types (P:=Tryz.prog) 36 34 a b Tryz.underlying40 (by decide) W
 by_cases he:e=n
 ·have he':(e==n)=true:=by simpa using he
  go_enter Tryz.func19,Tryz.ntmps19
  go_wp2
  refine wp_loop_rounds 3 ?_
  rw[rounds_succ]
  go_wp2
  rw[rounds_succ]
  go_wp2
  rw[rounds_succ]
  go_wp2
  go_ret
  exact⟨bool_ret he'.symm,(by with_reducible repeat first|exact Gr.refl _|refine Gr.alloc ?_ _|refine Gr.drewN ?_ _|refine Gr.drew ?_|refine Gr.later ?_ _ _)⟩
 ·have he':(e==n)=false:=by simpa using he
  go_enter Tryz.func19,Tryz.ntmps19
  go_wp2
  refine wp_loop_rounds 3 ?_
  rw[rounds_succ]
  go_wp2
  rw[rounds_succ]
  go_wp2
  rw[rounds_succ]
  go_wp2
  go_ret
  exact⟨bool_ret he'.symm,(by with_reducible repeat first|exact Gr.refl _|refine Gr.alloc ?_ _|refine Gr.drewN ?_ _|refine Gr.drew ?_|refine Gr.later ?_ _ _)⟩
end Go.Proofs.YthbgnpkgglbhjaaGreatDoor
