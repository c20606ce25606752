/- What 'errors.As' answers where the error's own type is the target's, api.Errno, and with it the laws' own 'num'. -/
import Derived.Test.YtkopcfpghklbbaaDoorRows
import Derived.WalkKit
import Derived.LaidEql
import Derived.Stop.Asserts
import Derived.RowKitTokens
namespace Go.Proofs.YtkopcfpghklbbaaDoor
open Go.RowKit Go.Extern.Stop Go.Stop Go.Extern

/-- The Value of a pointer to an Errno. -/
abbrev pv (a : Addr) : Value := .agg #[.pointer (some ⟨5, 95, none⟩), .pointer (some a), .int .u64 150]
/-- The Value of an Errno. -/
abbrev ev (a : Addr) : Value := .agg #[.pointer (some ⟨5, 93, none⟩), .pointer (some a), .int .u64 130]
/-- The Value of an Errno that can be set. -/
abbrev sv (a : Addr) : Value := .agg #[.pointer (some ⟨5, 93, none⟩), .pointer (some a), .int .u64 386]
abbrev rt (t : Nat) : Value := .iface 143 (.agg #[.pointer (some ⟨5, t, none⟩)])

theorem valueOfP (t : Addr) (w : World) : (ReflectliteValue.unpack (.iface 95 (.pointer (some t)))).run Tryd.prog w
    = .ok (pv ⟨w.heap.size, 0, none⟩) (w.alloc (.cells #[.pointer (some t)] 95)) := by kernel_rfl
theorem typeP (a : Addr) (w : World) : (ReflectliteValue.methodAny (ReflectliteValue.valueError "reflectlite.Value.Type" 0) (fun t _ _ _ => ReflectliteType.toType t) #[pv a]).run Tryd.prog w
    = .ok (rt 95) w := by kernel_rfl
theorem methodKind (h : Value) (w : World) : (Go.method 292 143 (.agg #[h]) "Kind").run Tryd.prog w = .ok (108, h) w := by kernel_rfl
theorem kindP (w : World) : ((ReflectliteType.abiMethod fun t => (fun a : Nat => Value.int IntKind.u8 (a : Int)) <$> Rtype.kind t) #[.pointer (some ⟨5, 95, none⟩)]).run Tryd.prog w = .ok (.int .u8 22) w := by kernel_rfl
theorem kindE (w : World) : ((ReflectliteType.abiMethod fun t => (fun a : Nat => Value.int IntKind.u8 (a : Int)) <$> Rtype.kind t) #[.pointer (some ⟨5, 93, none⟩)]).run Tryd.prog w = .ok (.int .u8 2) w := by kernel_rfl
theorem partsP (a : Addr) (w : World) : (ReflectliteValue.parts (pv a)).run Tryd.prog w = .ok (some (95, a, 150)) w := by kernel_rfl
theorem isNilP (a p : Addr) (W : World) (ha : W.cell? a = some (.pointer (some p))) :
    (ReflectliteValue.method (ReflectliteValue.valueError "reflectlite.Value.IsNil" 0) ReflectliteValue.isNil #[pv a]).run Tryd.prog W = .ok (.bool false) W := by
  rw [show ReflectliteValue.method (ReflectliteValue.valueError "reflectlite.Value.IsNil" 0) ReflectliteValue.isNil #[pv a] = (ReflectliteValue.parts (pv a) >>= fun p => _) from rfl]
  simp only [Sem.run_bind, partsP, Result.andThen]
  simp [ReflectliteValue.isNil, loadVar, isAgg, underlying, Tryd.underlying95, ha, Result.andThen]
theorem methodElem (h : Value) (w : World) : (Go.method 292 143 (.agg #[h]) "Elem").run Tryd.prog w = .ok (119, .agg #[h]) w := by kernel_rfl
theorem methodImplements (h : Value) (w : World) : (Go.method 292 143 (.agg #[h]) "Implements").run Tryd.prog w = .ok (120, .agg #[h]) w := by kernel_rfl
theorem methodAssignableTo (h : Value) (w : World) : (Go.method 292 143 (.agg #[h]) "AssignableTo").run Tryd.prog w = .ok (117, .agg #[h]) w := by kernel_rfl
theorem elemP (w : World) : (ReflectliteType.method ReflectliteType.elem #[.agg #[.pointer (some ⟨5, 95, none⟩)]]).run Tryd.prog w = .ok (rt 93) w := by kernel_rfl
theorem implementsE (w : World) : (ReflectliteType.relation "Implements" ReflectliteType.implements_ #[.agg #[.pointer (some ⟨5, 93, none⟩)], rt 37]).run Tryd.prog w = .ok (.bool true) w := by kernel_rfl
theorem typeOfE (v : Value) (w : World) : (ReflectliteType.typeOf #[.iface 93 v]).run Tryd.prog w = .ok (rt 93) w := by kernel_rfl
theorem assignableE (w : World) : (ReflectliteType.relation "AssignableTo" ReflectliteType.assignableTo #[.agg #[.pointer (some ⟨5, 93, none⟩)], rt 93]).run Tryd.prog w = .ok (.bool true) w := by kernel_rfl
theorem valueOfE (n : Int) (w : World) : (ReflectliteValue.unpack (.iface 93 (.int .i64 n))).run Tryd.prog w
    = .ok (ev ⟨w.heap.size, 0, none⟩) (w.alloc (.cells #[.int .i64 n] 93)) := by kernel_rfl
theorem elemOfP (w : World) : (Rtype.elem? 95).run Tryd.prog w = .ok (some 93) w := by kernel_rfl
theorem mkE (p : Addr) (w : World) : (ReflectliteValue.mk 93 p ReflectliteValue.flagAddr).run Tryd.prog w = .ok (sv p) w := by kernel_rfl
theorem elemVP (a p : Addr) (W : World) (ha : W.cell? a = some (.pointer (some p))) :
    (ReflectliteValue.method (ReflectliteValue.valueError "reflectlite.Value.Elem" 0) ReflectliteValue.elem #[pv a]).run Tryd.prog W = .ok (sv p) W := by
  rw [show ReflectliteValue.method (ReflectliteValue.valueError "reflectlite.Value.Elem" 0) ReflectliteValue.elem #[pv a] = (ReflectliteValue.parts (pv a) >>= fun p => _) from rfl]
  simp only [Sem.run_bind, partsP, Result.andThen]
  simp [ReflectliteValue.elem, loadVar, isAgg, underlying, Tryd.underlying95, ha, Result.andThen, elemOfP, mkE]
theorem partsS (a : Addr) (w : World) : (ReflectliteValue.parts (sv a)).run Tryd.prog w = .ok (some (93, a, 386)) w := by kernel_rfl
theorem partsE (a : Addr) (w : World) : (ReflectliteValue.parts (ev a)).run Tryd.prog w = .ok (some (93, a, 130)) w := by kernel_rfl
theorem directE (w : World) : (Rtype.directlyAssignable 93 93).run Tryd.prog w = .ok true w := by kernel_rfl
/-- (Value).Set: the Errno at ta becomes what the Value's own variable holds. -/
theorem setE (ta b : Addr) (n : Int) (old : Value) (W : World) (hb : W.cell? b = some (.int .i64 n)) (ht : W.cell? ta = some old) (hf : W.frozen? ta = false) :
    (ReflectliteValue.set #[sv ta, ev b]).run Tryd.prog W = .ok (.tuple #[]) (W.setCell ta (.int .i64 n)) := by
  rw [show ReflectliteValue.set #[sv ta, ev b] = (ReflectliteValue.parts (sv ta) >>= fun p => ReflectliteValue.parts (ev b) >>= fun q => _) from rfl]
  simp only [Sem.run_bind, partsS, partsE, Result.andThen]
  simp [ReflectliteValue.flagAddr, loadVar, isAgg, underlying, Tryd.underlying93, hb, Result.andThen, directE, storeVar, Value.cells, storeCells, Addr.add]
  rw [run_store Tryd.prog W ta _ _ (by rfl)]
  simp [ht, hf]
end Go.Proofs.YtkopcfpghklbbaaDoor
