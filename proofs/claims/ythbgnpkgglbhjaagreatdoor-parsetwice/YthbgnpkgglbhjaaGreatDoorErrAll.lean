import Derived.Test.YthbgnpkgglbhjaaGreatDoorErrIs
import Derived.Recover
import Derived.Defers
import Derived.Test.YthbgnpkgglbhjaaGreatDoorRdOps
namespace Go.Proofs.YthbgnpkgglbhjaaGreatDoor
open Go.RowKit Go.Extern.Stop Go.Stop Go.Extern
theorem Tryz.asMKind(h:Value)(w:World):(Go.method 361 131 (.agg #[h]) "Kind").run Tryz.prog w=.ok (194,h) w:=by kernel_rfl
theorem Tryz.asMElem(h:Value)(w:World):(Go.method 361 131 (.agg #[h]) "Elem").run Tryz.prog w=.ok (206,.agg #[h]) w:=by kernel_rfl
theorem Tryz.asMImpl(h:Value)(w:World):(Go.method 361 131 (.agg #[h]) "Implements").run Tryz.prog w=.ok (207,.agg #[h]) w:=by kernel_rfl
theorem Tryz.asMAssign(h:Value)(w:World):(Go.method 361 131 (.agg #[h]) "AssignableTo").run Tryz.prog w=.ok (204,.agg #[h]) w:=by kernel_rfl
def kindEntry:Array Value→Sem Value:=ReflectliteType.abiMethod fun t=>do pure (.int .u8 (←Rtype.kind t))
theorem Tryz.tdUnpackP(t:Addr)(w:World):(ReflectliteValue.unpack (.iface 155 (.pointer (some t)))).run Tryz.prog w=.ok (.agg #[.pointer (some ⟨7,155,none⟩),.pointer (some ⟨w.heap.size,0,none⟩),.int .u64 150]) (w.alloc (.cells #[.pointer (some t)] 155)):=by kernel_rfl
theorem Tryz.tdTypeP(a:Addr)(w:World):(ReflectliteValue.methodAny (ReflectliteValue.valueError "reflectlite.Value.Type" 0) (fun t _ _ _=>ReflectliteType.toType t) #[.agg #[.pointer (some ⟨7,155,none⟩),.pointer (some a),.int .u64 150]]).run Tryz.prog w=.ok (.iface 131 (.agg #[.pointer (some ⟨7,155,none⟩)])) w:=by kernel_rfl
theorem Tryz.tdKindP(w:World):(kindEntry #[.pointer (some ⟨7,155,none⟩)]).run Tryz.prog w=.ok (.int .u8 22) w:=by kernel_rfl
theorem Tryz.tdKindF(w:World):(kindEntry #[.pointer (some ⟨7,154,none⟩)]).run Tryz.prog w=.ok (.int .u8 25) w:=by kernel_rfl
theorem Tryz.tdElemP(w:World):(ReflectliteType.method ReflectliteType.elem #[.agg #[.pointer (some ⟨7,155,none⟩)]]).run Tryz.prog w=.ok (.iface 131 (.agg #[.pointer (some ⟨7,154,none⟩)])) w:=by kernel_rfl
theorem Tryz.tdImplF(w:World):(ReflectliteType.relation "Implements" ReflectliteType.implements_ #[.agg #[.pointer (some ⟨7,154,none⟩)],.iface 131 (.agg #[.pointer (some ⟨7,40,none⟩)])]).run Tryz.prog w=.ok (.bool true) w:=by kernel_rfl
theorem Tryz.tdTypeOf(v:Value)(w:World):(ReflectliteType.typeOf #[.iface 154 v]).run Tryz.prog w=.ok (.iface 131 (.agg #[.pointer (some ⟨7,154,none⟩)])) w:=by kernel_rfl
theorem Tryz.tdAssign(w:World):(ReflectliteType.relation "AssignableTo" ReflectliteType.assignableTo #[.agg #[.pointer (some ⟨7,154,none⟩)],.iface 131 (.agg #[.pointer (some ⟨7,154,none⟩)])]).run Tryz.prog w=.ok (.bool true) w:=by kernel_rfl
theorem Tryz.tdUnpackF(a b c:Value)(w:World):(ReflectliteValue.unpack (.iface 154 (.agg #[a,b,c]))).run Tryz.prog w=.ok (.agg #[.pointer (some ⟨7,154,none⟩),.pointer (some ⟨w.heap.size,0,none⟩),.int .u64 153]) (w.alloc (.cells #[a,b,c] 154)):=by kernel_rfl
theorem Tryz.tdPartsP(a:Addr)(w:World):(ReflectliteValue.parts (.agg #[.pointer (some ⟨7,155,none⟩),.pointer (some a),.int .u64 150])).run Tryz.prog w=.ok (some (155,a,150)) w:=by kernel_rfl
theorem Tryz.tdPartsA(a:Addr)(w:World):(ReflectliteValue.parts (.agg #[.pointer (some ⟨7,154,none⟩),.pointer (some a),.int .u64 409])).run Tryz.prog w=.ok (some (154,a,409)) w:=by kernel_rfl
theorem Tryz.tdPartsF(a:Addr)(w:World):(ReflectliteValue.parts (.agg #[.pointer (some ⟨7,154,none⟩),.pointer (some a),.int .u64 153])).run Tryz.prog w=.ok (some (154,a,153)) w:=by kernel_rfl
theorem Tryz.tdElemOf(w:World):(Rtype.elem? 155).run Tryz.prog w=.ok (some 154) w:=by kernel_rfl
theorem Tryz.tdMk(p:Addr)(w:World):(ReflectliteValue.mk 154 p ReflectliteValue.flagAddr).run Tryz.prog w=.ok (.agg #[.pointer (some ⟨7,154,none⟩),.pointer (some p),.int .u64 409]) w:=by kernel_rfl
theorem Tryz.tdDirect(w:World):(Rtype.directlyAssignable 154 154).run Tryz.prog w=.ok true w:=by kernel_rfl
theorem Tryz.tdIsNil(a p:Addr)(W:World)(ha:W.cell? a=some (.pointer (some p))) :
  (ReflectliteValue.method (ReflectliteValue.valueError "reflectlite.Value.IsNil" 0) ReflectliteValue.isNil #[.agg #[.pointer (some ⟨7,155,none⟩),.pointer (some a),.int .u64 150]]).run Tryz.prog W=.ok (.bool false) W:=by
 have e:∀v:Value,ReflectliteValue.method (ReflectliteValue.valueError "reflectlite.Value.IsNil" 0) ReflectliteValue.isNil #[v]=(ReflectliteValue.parts v >>= fun p=>_):=fun v=>rfl
 rw[e]
 simp only[Sem.run_bind,Tryz.tdPartsP,Result.andThen]
 simp[ReflectliteValue.isNil,loadVar,isAgg,underlying,Tryz.underlying155,ha,Result.andThen]
theorem Tryz.tdElemV(a p:Addr)(W:World)(ha:W.cell? a=some (.pointer (some p))) :
  (ReflectliteValue.method (ReflectliteValue.valueError "reflectlite.Value.Elem" 0) ReflectliteValue.elem #[.agg #[.pointer (some ⟨7,155,none⟩),.pointer (some a),.int .u64 150]]).run Tryz.prog W=.ok (.agg #[.pointer (some ⟨7,154,none⟩),.pointer (some p),.int .u64 409]) W:=by
 have e:∀v:Value,ReflectliteValue.method (ReflectliteValue.valueError "reflectlite.Value.Elem" 0) ReflectliteValue.elem #[v]=(ReflectliteValue.parts v >>= fun p=>_):=fun v=>rfl
 rw[e]
 simp only[Sem.run_bind,Tryz.tdPartsP,Result.andThen]
 simp[ReflectliteValue.elem,loadVar,isAgg,underlying,Tryz.underlying155,ha,Result.andThen,Tryz.tdElemOf,Tryz.tdMk]
theorem load3(W:World)(b:Nat)(c0 c1 c2:Value)(h0:W.cell? ⟨b,0,none⟩=some c0)(h1:W.cell? ⟨b,1,none⟩=some c1)(h2:W.cell? ⟨b,2,none⟩=some c2):(loadCells ⟨b,0,none⟩ 3).run Tryz.prog W=.ok #[c0,c1,c2] W:=by
 simp[loadCells,loadCellsFrom,Addr.add,h0,h1,h2,Result.andThen]
theorem store3(W:World)(b:Nat)(m:ByteArray)(x y:Int)(o0 o1 o2:Value)(g0:W.cell? ⟨b,0,none⟩=some o0)(g1:W.cell? ⟨b,1,none⟩=some o1)(g2:W.cell? ⟨b,2,none⟩=some o2)(f0:W.frozen? ⟨b,0,none⟩=false)(f1:W.frozen? ⟨b,1,none⟩=false)(f2:W.frozen? ⟨b,2,none⟩=false) :
  (storeCells ⟨b,0,none⟩ [.string m,.int .i64 x,.int .i64 y]).run Tryz.prog W=.ok () (((W.setCell ⟨b,0,none⟩ (.string m)).setCell ⟨b,1,none⟩ (.int .i64 x)).setCell ⟨b,2,none⟩ (.int .i64 y)):=by
 simp[storeCells,Addr.add,Result.andThen,go_sem,g0,g1,g2,f0,f1,f2]
theorem Tryz.tdSet(ta tb:Nat)(m:ByteArray)(x y:Int)(o0 o1 o2:Value)(W:World)(h0:W.cell? ⟨tb,0,none⟩=some (.string m))(h1:W.cell? ⟨tb,1,none⟩=some (.int .i64 x))(h2:W.cell? ⟨tb,2,none⟩=some (.int .i64 y))(g0:W.cell? ⟨ta,0,none⟩=some o0)(g1:W.cell? ⟨ta,1,none⟩=some o1)(g2:W.cell? ⟨ta,2,none⟩=some o2)(f0:W.frozen? ⟨ta,0,none⟩=false)(f1:W.frozen? ⟨ta,1,none⟩=false)(f2:W.frozen? ⟨ta,2,none⟩=false) :
  (ReflectliteValue.set #[.agg #[.pointer (some ⟨7,154,none⟩),.pointer (some ⟨ta,0,none⟩),.int .u64 409],.agg #[.pointer (some ⟨7,154,none⟩),.pointer (some ⟨tb,0,none⟩),.int .u64 153]]).run Tryz.prog W
   = .ok (.tuple #[]) (((W.setCell ⟨ta,0,none⟩ (.string m)).setCell ⟨ta,1,none⟩ (.int .i64 x)).setCell ⟨ta,2,none⟩ (.int .i64 y)):=by
 have e:∀v x:Value,ReflectliteValue.set #[v,x]=(ReflectliteValue.parts v >>= fun p=>ReflectliteValue.parts x >>= fun q=>_):=fun v x=>rfl
 rw[e]
 simp only[Sem.run_bind,Tryz.tdPartsA,Tryz.tdPartsF,Result.andThen]
 simp[ReflectliteValue.flagAddr,loadVar,Result.andThen,Tryz.tdDirect,storeVar,Value.cells,load3 W tb _ _ _ h0 h1 h2,store3 W ta m x y o0 o1 o2 g0 g1 g2 f0 f1 f2]
theorem set3_cells'{A:World}{ta:Nat}{o0 o1 o2:Value}(h0:A.cell? ⟨ta,0,none⟩=some o0)(h1:A.cell? ⟨ta,1,none⟩=some o1)(h2:A.cell? ⟨ta,2,none⟩=some o2)(m:ByteArray)(k e:Int) :
  (((A.setCell ⟨ta,0,none⟩ (.string m)).setCell ⟨ta,1,none⟩ (.int .i64 k)).setCell ⟨ta,2,none⟩ (.int .i64 e)).cell? ⟨ta,0,none⟩=some (.string m)∧(((A.setCell ⟨ta,0,none⟩ (.string m)).setCell ⟨ta,1,none⟩ (.int .i64 k)).setCell ⟨ta,2,none⟩ (.int .i64 e)).cell? ⟨ta,1,none⟩=some (.int .i64 k)∧(((A.setCell ⟨ta,0,none⟩ (.string m)).setCell ⟨ta,1,none⟩ (.int .i64 k)).setCell ⟨ta,2,none⟩ (.int .i64 e)).cell? ⟨ta,2,none⟩=some (.int .i64 e):=by
 refine⟨?_,?_,?_⟩
 ·rw[World.cell?_setCell_other _ _ _ _ (by simp),World.cell?_setCell_other _ _ _ _ (by simp),World.cell?_setCell_same _ _ _ h0]
 ·rw[World.cell?_setCell_other _ _ _ _ (by simp)];exact World.cell?_setCell_same _ _ _ (by rw[World.cell?_setCell_other _ _ _ _ (by simp)];exact h1)
 ·exact World.cell?_setCell_same _ _ _ (by rw[World.cell?_setCell_other _ _ _ _ (by simp),World.cell?_setCell_other _ _ _ _ (by simp)];exact h2)
set_option maxRecDepth 100000 in
set_option maxHeartbeats 1600000 in
theorem asTold_calls(ta:Nat)(m:ByteArray)(k e:Int)(o0 o1 o2:Value)(w:World)(hg:w.cell? ⟨0,0,none⟩=some (.iface 131 (.agg #[.pointer (some ⟨7,40,none⟩)])))
  (ht0:w.cell? ⟨ta,0,none⟩=some o0)(ht1:w.cell? ⟨ta,1,none⟩=some o1)(ht2:w.cell? ⟨ta,2,none⟩=some o2)(hf0:w.frozen? ⟨ta,0,none⟩=false)(hf1:w.frozen? ⟨ta,1,none⟩=false)(hf2:w.frozen? ⟨ta,2,none⟩=false) :
  Calls Tryz.prog 38 #[.iface 154 (.agg #[.string m,.int .i64 k,.int .i64 e]),.iface 155 (.pointer (some ⟨ta,0,none⟩))] w fun ev w'=>ev=.returned (.bool true)∧w'.cell? ⟨ta,0,none⟩=some (.string m)∧w'.cell? ⟨ta,1,none⟩=some (.int .i64 k)∧w'.cell? ⟨ta,2,none⟩=some (.int .i64 e)∧Below ta w w':=by
 have h1:=@run_callFunc_extern Tryz.prog 73 _ (fun args=>ReflectliteValue.unpack (args.getD 0 (.tuple #[]))) Tryz.func73 (by kernel_rfl) (by kernel_rfl) (by kernel_rfl) (by kernel_rfl)
 have h2:=@run_callFunc_extern Tryz.prog 74 _ (ReflectliteValue.methodAny (ReflectliteValue.valueError "reflectlite.Value.Type" 0) (fun t _ _ _=>ReflectliteType.toType t)) Tryz.func74 (by kernel_rfl) (by kernel_rfl) (by kernel_rfl) (by kernel_rfl)
 have h3:=@run_callFunc_extern Tryz.prog 75 _ (ReflectliteValue.method (ReflectliteValue.valueError "reflectlite.Value.IsNil" 0) ReflectliteValue.isNil) Tryz.func75 (by kernel_rfl) (by kernel_rfl) (by kernel_rfl) (by kernel_rfl)
 have h4:=@run_callFunc_extern Tryz.prog 194 _ kindEntry Tryz.func194 (by kernel_rfl) (by kernel_rfl) (by kernel_rfl) (by kernel_rfl)
 have h5:=@run_callFunc_extern Tryz.prog 206 _ (ReflectliteType.method ReflectliteType.elem) Tryz.func206 (by kernel_rfl) (by kernel_rfl) (by kernel_rfl) (by kernel_rfl)
 have h6:=@run_callFunc_extern Tryz.prog 207 _ (ReflectliteType.relation "Implements" ReflectliteType.implements_) Tryz.func207 (by kernel_rfl) (by kernel_rfl) (by kernel_rfl) (by kernel_rfl)
 have h7:=@run_callFunc_extern Tryz.prog 39 _ ReflectliteType.typeOf Tryz.func39 (by kernel_rfl) (by kernel_rfl) (by kernel_rfl) (by kernel_rfl)
 have h8:=@run_callFunc_extern Tryz.prog 204 _ (ReflectliteType.relation "AssignableTo" ReflectliteType.assignableTo) Tryz.func204 (by kernel_rfl) (by kernel_rfl) (by kernel_rfl) (by kernel_rfl)
 have h9:=@run_callFunc_extern Tryz.prog 107 _ (ReflectliteValue.method (ReflectliteValue.valueError "reflectlite.Value.Elem" 0) ReflectliteValue.elem) Tryz.func107 (by kernel_rfl) (by kernel_rfl) (by kernel_rfl) (by kernel_rfl)
 have h10:=@run_callFunc_extern Tryz.prog 108 _ ReflectliteValue.set Tryz.func108 (by kernel_rfl) (by kernel_rfl) (by kernel_rfl) (by kernel_rfl)
 have c1:=Tryz.tdUnpackP
 have c2:=Tryz.tdTypeP
 have c3:=Tryz.asMKind
 have c4:=Tryz.asMElem
 have c5:=Tryz.asMImpl
 have c6:=Tryz.asMAssign
 have c7:=Tryz.tdKindP
 have c8:=Tryz.tdKindF
 have c9:=Tryz.tdElemP
 have c10:=Tryz.tdImplF
 have c12:=Tryz.tdTypeOf
 have c13:=Tryz.tdAssign
 have c15:=Tryz.tdUnpackF
 have hlt:0<w.heap.size:=by
  rcases Nat.eq_zero_or_pos w.heap.size with h|h
  ·simp[World.cell?,h] at hg
  ·exact h
 have htl:ta<w.heap.size:=by
  rcases Nat.lt_or_ge ta w.heap.size with h|h
  ·exact h
  ·simp[World.cell?,Array.getElem?_eq_none h] at ht0
 have n8:=Tryz.tdIsNil ⟨w.heap.size,0,none⟩ ⟨ta,0,none⟩ ((w.alloc (.cells #[.pointer (some ⟨ta,0,none⟩)] 155)).alloc (.cells #[.pointer (some ⟨7,155,none⟩),.pointer (some ⟨w.heap.size,0,none⟩),.int .u64 150] 123)) (by simp)
 have el:=Tryz.tdElemV ⟨w.heap.size,0,none⟩ ⟨ta,0,none⟩ (((w.alloc (.cells #[.pointer (some ⟨ta,0,none⟩)] 155)).alloc (.cells #[.pointer (some ⟨7,155,none⟩),.pointer (some ⟨w.heap.size,0,none⟩),.int .u64 150] 123)).alloc (.cells #[.pointer (some ⟨7,155,none⟩),.pointer (some ⟨w.heap.size,0,none⟩),.int .u64 150] 123)) (by
  rw[World.cell?_alloc_lt _ _ ⟨w.heap.size,0,none⟩ (by simp;omega)]
  simp)
 have st0:((((w.alloc (.cells #[.pointer (some ⟨ta,0,none⟩)] 155)).alloc (.cells #[.pointer (some ⟨7,155,none⟩),.pointer (some ⟨w.heap.size,0,none⟩),.int .u64 150] 123)).alloc (.cells #[.pointer (some ⟨7,155,none⟩),.pointer (some ⟨w.heap.size,0,none⟩),.int .u64 150] 123)).alloc (.cells #[.string m,.int .i64 k,.int .i64 e] 154)).cell? ⟨ta,0,none⟩=some o0:=by rw[World.cell?_alloc_lt _ _ ⟨ta,0,none⟩ (by simp;omega),World.cell?_alloc_lt _ _ ⟨ta,0,none⟩ (by simp;omega),World.cell?_alloc_lt _ _ ⟨ta,0,none⟩ (by simp;omega),World.cell?_alloc_lt _ _ ⟨ta,0,none⟩ htl];exact ht0
 have st1:((((w.alloc (.cells #[.pointer (some ⟨ta,0,none⟩)] 155)).alloc (.cells #[.pointer (some ⟨7,155,none⟩),.pointer (some ⟨w.heap.size,0,none⟩),.int .u64 150] 123)).alloc (.cells #[.pointer (some ⟨7,155,none⟩),.pointer (some ⟨w.heap.size,0,none⟩),.int .u64 150] 123)).alloc (.cells #[.string m,.int .i64 k,.int .i64 e] 154)).cell? ⟨ta,1,none⟩=some o1:=by rw[World.cell?_alloc_lt _ _ ⟨ta,1,none⟩ (by simp;omega),World.cell?_alloc_lt _ _ ⟨ta,1,none⟩ (by simp;omega),World.cell?_alloc_lt _ _ ⟨ta,1,none⟩ (by simp;omega),World.cell?_alloc_lt _ _ ⟨ta,1,none⟩ htl];exact ht1
 have st2:((((w.alloc (.cells #[.pointer (some ⟨ta,0,none⟩)] 155)).alloc (.cells #[.pointer (some ⟨7,155,none⟩),.pointer (some ⟨w.heap.size,0,none⟩),.int .u64 150] 123)).alloc (.cells #[.pointer (some ⟨7,155,none⟩),.pointer (some ⟨w.heap.size,0,none⟩),.int .u64 150] 123)).alloc (.cells #[.string m,.int .i64 k,.int .i64 e] 154)).cell? ⟨ta,2,none⟩=some o2:=by rw[World.cell?_alloc_lt _ _ ⟨ta,2,none⟩ (by simp;omega),World.cell?_alloc_lt _ _ ⟨ta,2,none⟩ (by simp;omega),World.cell?_alloc_lt _ _ ⟨ta,2,none⟩ (by simp;omega),World.cell?_alloc_lt _ _ ⟨ta,2,none⟩ htl];exact ht2
 have st:=Tryz.tdSet ta (w.heap.size+1+1+1) m k e o0 o1 o2 ((((w.alloc (.cells #[.pointer (some ⟨ta,0,none⟩)] 155)).alloc (.cells #[.pointer (some ⟨7,155,none⟩),.pointer (some ⟨w.heap.size,0,none⟩),.int .u64 150] 123)).alloc (.cells #[.pointer (some ⟨7,155,none⟩),.pointer (some ⟨w.heap.size,0,none⟩),.int .u64 150] 123)).alloc (.cells #[.string m,.int .i64 k,.int .i64 e] 154))
  (by rw[World.cell?_alloc_at _ _ _ _ (by simp)];rfl) (by rw[World.cell?_alloc_at _ _ _ _ (by simp)];rfl) (by rw[World.cell?_alloc_at _ _ _ _ (by simp)];rfl)
  st0 st1 st2 (by rw[World.frozen?_alloc_old _ _ ⟨ta,0,none⟩ (by simp;omega),World.frozen?_alloc_old _ _ ⟨ta,0,none⟩ (by simp;omega),World.frozen?_alloc_old _ _ ⟨ta,0,none⟩ (by simp;omega),World.frozen?_alloc_old _ _ ⟨ta,0,none⟩ (Nat.ne_of_lt htl)];exact hf0) (by rw[World.frozen?_alloc_old _ _ ⟨ta,1,none⟩ (by simp;omega),World.frozen?_alloc_old _ _ ⟨ta,1,none⟩ (by simp;omega),World.frozen?_alloc_old _ _ ⟨ta,1,none⟩ (by simp;omega),World.frozen?_alloc_old _ _ ⟨ta,1,none⟩ (Nat.ne_of_lt htl)];exact hf1) (by rw[World.frozen?_alloc_old _ _ ⟨ta,2,none⟩ (by simp;omega),World.frozen?_alloc_old _ _ ⟨ta,2,none⟩ (by simp;omega),World.frozen?_alloc_old _ _ ⟨ta,2,none⟩ (by simp;omega),World.frozen?_alloc_old _ _ ⟨ta,2,none⟩ (Nat.ne_of_lt htl)];exact hf2)
 have hg2:((w.alloc (.cells #[.pointer (some ⟨ta,0,none⟩)] 155)).alloc (.cells #[.pointer (some ⟨7,155,none⟩),.pointer (some ⟨w.heap.size,0,none⟩),.int .u64 150] 123)).cell? ⟨0,0,none⟩=some (.iface 131 (.agg #[.pointer (some ⟨7,40,none⟩)])):=by
  rw[World.cell?_alloc_lt _ _ ⟨0,0,none⟩ (by simp),World.cell?_alloc_lt _ _ ⟨0,0,none⟩ hlt];exact hg
 have H0:Hid _:=st0
 have H1:Hid _:=st1
 have H2:Hid _:=st2
 have HST:Hid _:=st
 have HEL:Hid _:=el
 have HTl:=hid htl
 clear st st0 st1 st2 el ht0 ht1 ht2 hf0 hf1 hf2
 go_enter Tryz.func38,Tryz.ntmps38
 go_wp2
 refine wp_loop_rounds 1 ?_
 rw[rounds_succ]
 clear n8 hg2 hg c1 c2 c3 c4 c5 c7 c8 c9 c10 h2 h3 h4 h5 h6 hlt
 have el:=HEL.out
 go_wp2
 have st:=HST.out
 rw[st]
 clear el st h1 h7 h8 h9 h10 c6 c12 c13 c15
 obtain⟨W,hW⟩:=nw ((((((((w.alloc (.cells #[.pointer (some ⟨ta,0,none⟩)] 155)).alloc (.cells #[.pointer (some ⟨7,155,none⟩),.pointer (some ⟨w.heap.size,0,none⟩),.int .u64 150] 123)).alloc (.cells #[.pointer (some ⟨7,155,none⟩),.pointer (some ⟨w.heap.size,0,none⟩),.int .u64 150] 123)).alloc (.cells #[.string m,.int .i64 k,.int .i64 e] 154)).setCell ⟨ta,0,none⟩ (.string m)).setCell ⟨ta,1,none⟩ (.int .i64 k)).setCell ⟨ta,2,none⟩ (.int .i64 e)))
 rw[←hW]
 have HF:Hid (W.cell? ⟨ta,0,none⟩=some (.string m)∧W.cell? ⟨ta,1,none⟩=some (.int .i64 k)∧W.cell? ⟨ta,2,none⟩=some (.int .i64 e)∧Below ta w W):=by
  have hc:=set3_cells' H0.out H1.out H2.out m k e
  have htl:=HTl.out
  rw[Hid,hW]
  exact⟨hc.1,hc.2.1,hc.2.2,(((((((Below.refl ta w).alloc (by omega) _).alloc (by simp;omega) _).alloc (by simp;omega) _).alloc (by simp;omega) _)).setCell (p:=⟨ta,0,none⟩) (Nat.le_refl _) _).setCell (p:=⟨ta,1,none⟩) (Nat.le_refl _) _ |>.setCell (p:=⟨ta,2,none⟩) (Nat.le_refl _) _⟩
 clear hW H0 H1 H2 HST HEL
 go_wp2
 go_ret
 exact⟨rfl,HF.out⟩
theorem Tryz.isErr(v:Value)(w:World):(Instr.typeAssert (.iface 154 v) 20 40 true).run Tryz.prog w=.ok (.tuple #[.iface 154 v,.bool true]) w:=run_typeAssert_hasB Tryz.underlying40 (by kernel_rfl) v _ w
set_option maxRecDepth 100000 in
set_option maxHeartbeats 1600000 in
theorem caught_calls(m:ByteArray)(k e:Int)(w:World)(hg:w.cell? ⟨0,0,none⟩=some (.iface 131 (.agg #[.pointer (some ⟨7,40,none⟩)]))) :
  Calls Tryz.prog 52 #[.iface 154 (.agg #[.string m,.int .i64 k,.int .i64 e])] w fun x w'=>x=.returned (.iface 154 (.agg #[.string m,.int .i64 k,.int .i64 e]))∧Below w.heap.size w w':=by
 have hlt:0<w.heap.size:=by
  rcases Nat.eq_zero_or_pos w.heap.size with h|h
  ·simp[World.cell?,h] at hg
  ·exact h
 obtain⟨w1,hw1⟩:∃w1:World,w1=w.alloc (.cells #[.string ⟨#[]⟩,.int .i64 0,.int .i64 0] 154):=⟨_,rfl⟩
 have hb1:Below w.heap.size w w1:=by rw[hw1];exact bal _
 have CA:=asTold_calls w.heap.size m k e (.string ⟨#[]⟩) (.int .i64 0) (.int .i64 0) w1 ((hb1.cell (p:=⟨0,0,none⟩) hlt).trans hg) (by rw[hw1];exact World.cell?_alloc_at _ _ _ _ rfl) (by rw[hw1];exact World.cell?_alloc_at _ _ _ _ rfl) (by rw[hw1];exact World.cell?_alloc_at _ _ _ _ rfl) (by rw[hw1];exact World.frozen?_alloc_at _ _ _ _ rfl) (by rw[hw1];exact World.frozen?_alloc_at _ _ _ _ rfl) (by rw[hw1];exact World.frozen?_alloc_at _ _ _ _ rfl)
 have HW1:=hid hw1.symm
 have HB1:=hid hb1
 have c1:=Tryz.isErr
 clear hw1 hb1 hg hlt
 go_enter Tryz.func52,Tryz.ntmps52
 go_wp2_with fail
 rw[HW1.out]
 refine CA.mono ?_
 rintro x w2 ⟨rfl,q0,q1,q2,hb2⟩
 have HB2:=hid (HB1.out.trans hb2)
 clear CA hb2
 go_wp2_with fail
 go_ret
 exact⟨rfl,HB2.out⟩
end Go.Proofs.YthbgnpkgglbhjaaGreatDoor
namespace Go.Proofs.YthbgnpkgglbhjaaGreatDoor
open Go.RowKit
set_option maxRecDepth 100000 in
set_option maxHeartbeats 1600000 in
theorem catch_rd(p q:Nat)(m:ByteArray)(k e:Int)(v0 v1:Value)(w:World)(hp:w.cell? ⟨p,0,none⟩=some v0)(fp:w.frozen? ⟨p,0,none⟩=false)(hq:w.cell? ⟨q,0,none⟩=some v1)(fq:w.frozen? ⟨q,0,none⟩=false)(hne:p≠q)(hg:w.cell? ⟨0,0,none⟩=some (.iface 131 (.agg #[.pointer (some ⟨7,40,none⟩)]))) :
  CallsD Tryz.prog 51 #[.pointer (some ⟨p,0,none⟩),.pointer (some ⟨q,0,none⟩)] (.panicking [{ v:=.iface 154 (.agg #[.string m,.int .i64 k,.int .i64 e]),recovered:=false }]) w fun e' u' w' =>
   e'=.returned (.tuple #[])∧u'=.panicking [{ v:=.iface 154 (.agg #[.string m,.int .i64 k,.int .i64 e]),recovered:=true }]∧∃w1,Below w.heap.size w w1∧w'=(w1.setCell ⟨p,0,none⟩ (.slice none 0 0)).setCell ⟨q,0,none⟩ (.iface 154 (.agg #[.string m,.int .i64 k,.int .i64 e])):=by
 have CC:=caught_calls m k e w hg
 refine callsD_of_wpS Tryz.func51 rfl fun c₀ cs hu=>?_
 apply wpS_seq
 apply wpS_region
 simp[wpOpsS,go_sem,recoverD,hu,Tryz.ntmps51,Exit.thenS]
 refine wpS_of_wp ?_
 change Code.wp _ _ _ { tmps:=#[.pointer (some ⟨p,0,none⟩),.pointer (some ⟨q,0,none⟩),.iface 154 (.agg #[.string m,.int .i64 k,.int .i64 e]),.iface 154 (.agg #[.string m,.int .i64 k,.int .i64 e]),undef,undef,undef,undef,undef],defers:=[] } _
 have hlp:p<w.heap.size:=World.block_lt_of_cell? w ⟨p,0,none⟩ hp
 have hlq:q<w.heap.size:=World.block_lt_of_cell? w ⟨q,0,none⟩ hq
 have HP:Hid (∀W,Below w.heap.size w W→W.cell? ⟨p,0,none⟩=some v0∧W.frozen? ⟨p,0,none⟩=false∧W.cell? ⟨q,0,none⟩=some v1∧W.frozen? ⟨q,0,none⟩=false):=fun W hb=>⟨(hb.cell (p:=⟨p,0,none⟩) hlp).trans hp,(hb.frozen (p:=⟨p,0,none⟩) hlp).trans fp,(hb.cell (p:=⟨q,0,none⟩) hlq).trans hq,(hb.frozen (p:=⟨q,0,none⟩) hlq).trans fq⟩
 clear hp fp hq fq hg hlp hlq
 have HU:Hid _:=hu
 clear hu
 go_wp2_with fail
 refine CC.mono ?_
 rintro x w2 ⟨rfl,hb⟩
 have HB:=hid hb
 obtain⟨p0,p1,q0,q1⟩:=HP.out w2 hb
 have hne2:q≠p:=hne.symm
 clear CC hb
 go_wp2_with fail
 refine⟨rfl,_,rfl,_,by simp[results,Tryz.results51,go_sem];try rfl,rfl,rfl,w2,HB.out,rfl⟩
set_option maxRecDepth 100000 in
set_option maxHeartbeats 1600000 in
theorem catch_idle(p q:Nat)(w:World):CallsD Tryz.prog 51 #[.pointer (some ⟨p,0,none⟩),.pointer (some ⟨q,0,none⟩)] .returning w fun e' u' w'=>e'=.returned (.tuple #[])∧u'=.returning∧w'=w:=by
 refine callsD_of_wpS Tryz.func51 rfl fun c₀ cs hu=>?_
 apply wpS_seq
 apply wpS_region
 simp[wpOpsS,go_sem,recoverD,hu,Tryz.ntmps51,Exit.thenS]
 refine wpS_of_wp ?_
 change Code.wp _ _ _ { tmps:=#[.pointer (some ⟨p,0,none⟩),.pointer (some ⟨q,0,none⟩),.nilIface,.nilIface,undef,undef,undef,undef,undef],defers:=[] } _
 have HU:Hid _:=hu
 clear hu
 go_wp2_with fail
 refine⟨rfl,_,by have h:=HU.out;clear HU;cases c₀;simp_all,_,by simp[results,Tryz.results51,go_sem];try rfl,rfl,rfl,rfl⟩
end Go.Proofs.YthbgnpkgglbhjaaGreatDoor
