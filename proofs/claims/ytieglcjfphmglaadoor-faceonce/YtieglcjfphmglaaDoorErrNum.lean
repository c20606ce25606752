/- What 'errors.As' answers where the error's own type is the target's, api.Errno, and with it the laws' own 'num'. -/
import Derived.Test.YtieglcjfphmglaaDoorRows
import Derived.WalkKit
import Derived.LaidEql
import Derived.Stop.Asserts
import Derived.RowKitTokens
namespace Go.Proofs.YtieglcjfphmglaaDoor
open Go.RowKit Go.Extern.Stop Go.Stop Go.Extern

/-- The Value of a pointer to an Errno. -/
abbrev pvE (a : Addr) : Value := .agg #[.pointer (some ⟨1, 76, none⟩), .pointer (some a), .int .u64 150]
/-- The Value of an Errno. -/
abbrev evE (a : Addr) : Value := .agg #[.pointer (some ⟨1, 74, none⟩), .pointer (some a), .int .u64 130]
/-- The Value of an Errno that can be set. -/
abbrev svE (a : Addr) : Value := .agg #[.pointer (some ⟨1, 74, none⟩), .pointer (some a), .int .u64 386]
abbrev rt (t : Nat) : Value := .iface 119 (.agg #[.pointer (some ⟨1, t, none⟩)])

theorem valueOfP (t : Addr) (w : World) : (ReflectliteValue.unpack (.iface 76 (.pointer (some t)))).run Tryd.prog w
    = .ok (pvE ⟨w.heap.size, 0, none⟩) (w.alloc (.cells #[.pointer (some t)] 76)) := by kernel_rfl
theorem typeP (a : Addr) (w : World) : (ReflectliteValue.methodAny (ReflectliteValue.valueError "reflectlite.Value.Type" 0) (fun t _ _ _ => ReflectliteType.toType t) #[pvE a]).run Tryd.prog w
    = .ok (rt 76) w := by kernel_rfl
theorem methodKind (h : Value) (w : World) : (Go.method 263 119 (.agg #[h]) "Kind").run Tryd.prog w = .ok (80, h) w := by kernel_rfl
theorem kindP (w : World) : ((ReflectliteType.abiMethod fun t => (fun a : Nat => Value.int IntKind.u8 (a : Int)) <$> Rtype.kind t) #[.pointer (some ⟨1, 76, none⟩)]).run Tryd.prog w = .ok (.int .u8 22) w := by kernel_rfl
theorem kindE (w : World) : ((ReflectliteType.abiMethod fun t => (fun a : Nat => Value.int IntKind.u8 (a : Int)) <$> Rtype.kind t) #[.pointer (some ⟨1, 74, none⟩)]).run Tryd.prog w = .ok (.int .u8 2) w := by kernel_rfl
theorem partsP (a : Addr) (w : World) : (ReflectliteValue.parts (pvE a)).run Tryd.prog w = .ok (some (76, a, 150)) w := by kernel_rfl
theorem isNilP (a p : Addr) (W : World) (ha : W.cell? a = some (.pointer (some p))) :
    (ReflectliteValue.method (ReflectliteValue.valueError "reflectlite.Value.IsNil" 0) ReflectliteValue.isNil #[pvE a]).run Tryd.prog W = .ok (.bool false) W := by
  rw [show ReflectliteValue.method (ReflectliteValue.valueError "reflectlite.Value.IsNil" 0) ReflectliteValue.isNil #[pvE a] = (ReflectliteValue.parts (pvE a) >>= fun p => _) from rfl]
  simp only [Sem.run_bind, partsP, Result.andThen]
  simp [ReflectliteValue.isNil, loadVar, isAgg, underlying, Tryd.underlying76, ha, Result.andThen]
theorem methodElem (h : Value) (w : World) : (Go.method 263 119 (.agg #[h]) "Elem").run Tryd.prog w = .ok (91, .agg #[h]) w := by kernel_rfl
theorem methodImplements (h : Value) (w : World) : (Go.method 263 119 (.agg #[h]) "Implements").run Tryd.prog w = .ok (92, .agg #[h]) w := by kernel_rfl
theorem methodAssignableTo (h : Value) (w : World) : (Go.method 263 119 (.agg #[h]) "AssignableTo").run Tryd.prog w = .ok (89, .agg #[h]) w := by kernel_rfl
theorem elemP (w : World) : (ReflectliteType.method ReflectliteType.elem #[.agg #[.pointer (some ⟨1, 76, none⟩)]]).run Tryd.prog w = .ok (rt 74) w := by kernel_rfl
theorem implementsE (w : World) : (ReflectliteType.relation "Implements" ReflectliteType.implements_ #[.agg #[.pointer (some ⟨1, 74, none⟩)], rt 31]).run Tryd.prog w = .ok (.bool true) w := by kernel_rfl
theorem typeOfE (v : Value) (w : World) : (ReflectliteType.typeOf #[.iface 74 v]).run Tryd.prog w = .ok (rt 74) w := by kernel_rfl
theorem assignableE (w : World) : (ReflectliteType.relation "AssignableTo" ReflectliteType.assignableTo #[.agg #[.pointer (some ⟨1, 74, none⟩)], rt 74]).run Tryd.prog w = .ok (.bool true) w := by kernel_rfl
theorem valueOfE (n : Int) (w : World) : (ReflectliteValue.unpack (.iface 74 (.int .i64 n))).run Tryd.prog w
    = .ok (evE ⟨w.heap.size, 0, none⟩) (w.alloc (.cells #[.int .i64 n] 74)) := by kernel_rfl
theorem elemOfP (w : World) : (Rtype.elem? 76).run Tryd.prog w = .ok (some 74) w := by kernel_rfl
theorem mkE (p : Addr) (w : World) : (ReflectliteValue.mk 74 p ReflectliteValue.flagAddr).run Tryd.prog w = .ok (svE p) w := by kernel_rfl
theorem elemVP (a p : Addr) (W : World) (ha : W.cell? a = some (.pointer (some p))) :
    (ReflectliteValue.method (ReflectliteValue.valueError "reflectlite.Value.Elem" 0) ReflectliteValue.elem #[pvE a]).run Tryd.prog W = .ok (svE p) W := by
  rw [show ReflectliteValue.method (ReflectliteValue.valueError "reflectlite.Value.Elem" 0) ReflectliteValue.elem #[pvE a] = (ReflectliteValue.parts (pvE a) >>= fun p => _) from rfl]
  simp only [Sem.run_bind, partsP, Result.andThen]
  simp [ReflectliteValue.elem, loadVar, isAgg, underlying, Tryd.underlying76, ha, Result.andThen, elemOfP, mkE]
theorem partsS (a : Addr) (w : World) : (ReflectliteValue.parts (svE a)).run Tryd.prog w = .ok (some (74, a, 386)) w := by kernel_rfl
theorem partsE (a : Addr) (w : World) : (ReflectliteValue.parts (evE a)).run Tryd.prog w = .ok (some (74, a, 130)) w := by kernel_rfl
theorem directE (w : World) : (Rtype.directlyAssignable 74 74).run Tryd.prog w = .ok true w := by kernel_rfl
/-- (Value).Set: the Errno at ta becomes what the Value's own variable holds. -/
theorem setE (ta b : Addr) (n : Int) (old : Value) (W : World) (hb : W.cell? b = some (.int .i64 n)) (ht : W.cell? ta = some old) (hf : W.frozen? ta = false) :
    (ReflectliteValue.set #[svE ta, evE b]).run Tryd.prog W = .ok (.tuple #[]) (W.setCell ta (.int .i64 n)) := by
  rw [show ReflectliteValue.set #[svE ta, evE b] = (ReflectliteValue.parts (svE ta) >>= fun p => ReflectliteValue.parts (evE b) >>= fun q => _) from rfl]
  simp only [Sem.run_bind, partsS, partsE, Result.andThen]
  simp [ReflectliteValue.flagAddr, loadVar, isAgg, underlying, Tryd.underlying74, hb, Result.andThen, directE, storeVar, Value.cells, storeCells, Addr.add]
  rw [run_store Tryd.prog W ta _ _ (by rfl)]
  simp [ht, hf]
end Go.Proofs.YtieglcjfphmglaaDoor
