/-
  What errors.Is tells of an error and a plain number, where the error is nil, a plain number, a fault, a fault around a fault.
  Conditions: none.
-/
import Derived.Test.YtcmdemblegdelaaDoorFraI
import Derived.LaidEql
import Derived.Stop.Asserts
import Derived.RowKitTokens
namespace Go.Proofs.YtcmdemblegdelaaDoor
open Go.RowKit Go.Extern.Stop Go.Stop Go.Extern

theorem Tryd.noIsF (v : Value) (xT : TypeId) (w : World) : (Instr.typeAssert (.iface 56 v) xT 124 true).run Tryd.prog w = .ok (.tuple #[.nilIface, .bool false]) w := run_typeAssert_lacksB Tryd.underlying124 (by kernel_rfl) (by kernel_rfl) v xT w
theorem Tryd.noIsE (v : Value) (xT : TypeId) (w : World) : (Instr.typeAssert (.iface 30 v) xT 124 true).run Tryd.prog w = .ok (.tuple #[.nilIface, .bool false]) w := run_typeAssert_lacksB Tryd.underlying124 (by kernel_rfl) (by kernel_rfl) v xT w
theorem Tryd.noUnE (v : Value) (xT : TypeId) (w : World) : (Instr.typeAssert (.iface 30 v) xT 117 true).run Tryd.prog w = .ok (.tuple #[.nilIface, .bool false]) w := run_typeAssert_lacksB Tryd.underlying117 (by kernel_rfl) (by kernel_rfl) v xT w
theorem Tryd.noUnsE (v : Value) (xT : TypeId) (w : World) : (Instr.typeAssert (.iface 30 v) xT 118 true).run Tryd.prog w = .ok (.tuple #[.nilIface, .bool false]) w := run_typeAssert_lacksB Tryd.underlying118 (by kernel_rfl) (by kernel_rfl) v xT w
theorem Tryd.unF (v : Value) (xT : TypeId) (w : World) : (Instr.typeAssert (.iface 56 v) xT 117 true).run Tryd.prog w = .ok (.tuple #[.iface 56 v, .bool true]) w := run_typeAssert_hasB Tryd.underlying117 (by kernel_rfl) v xT w
theorem Tryd.methodUnwrap (v : Value) (w : World) : (Go.method 256 56 v "Unwrap").run Tryd.prog w = .ok (89, v) w := by kernel_rfl
theorem Tryd.methodComparable (v : Value) (w : World) : (Go.method 256 110 v "Comparable").run Tryd.prog w = .ok (95, v) w := by kernel_rfl
theorem Tryd.typeOfE (v : Value) (w : World) : (ReflectliteType.typeOf #[.iface 30 v]).run Tryd.prog w = .ok (.iface 110 (.agg #[.pointer (some ⟨1, 30, none⟩)])) w := by kernel_rfl
theorem Tryd.comparableE (w : World) : ((ReflectliteType.method fun t => do Rtype.noPackHeld "Comparable" t; (fun a => Value.bool a.comparable) <$> typeInfo t) #[.agg #[.pointer (some ⟨1, 30, none⟩)]]).run Tryd.prog w = .ok (.bool true) w := by kernel_rfl
theorem Tryd.eq11 (w : World) : (binOp .eql 25 (.iface 30 (.int .i64 1)) (.iface 30 (.int .i64 1))).run Tryd.prog w = .ok (.bool true) w := by kernel_rfl
theorem Tryd.eq131 (w : World) : (binOp .eql 25 (.iface 30 (.int .i64 13)) (.iface 30 (.int .i64 1))).run Tryd.prog w = .ok (.bool false) w := by kernel_rfl

/-- What errors.Is tells of an error and the number 1. -/
def IsShort (v : Value) (b : Bool) (w : World) : Prop :=
  Calls Tryd.prog 39 #[v, .iface 30 (.int .i64 1)] w fun e w' => e = .returned (.bool b) ∧ w' = w

set_option maxRecDepth 100000 in
set_option maxHeartbeats 2000000 in
theorem is_fault (f a : Nat) (w : World) (hb : Blk w f (flt a 1) 58) : IsShort (.iface 56 (.pointer (some ⟨f, 0, none⟩))) true w := by
  unfold IsShort
  have c1 : w.cell? ⟨f, 1, none⟩ = some (.iface 30 (.int .i64 1)) := by rw [Blk.cell hb]; rfl
  clear hb
  have h8 := @run_callFunc_extern Tryd.prog 56 _ ReflectliteType.typeOf Tryd.func56 (by kernel_rfl) (by kernel_rfl) (by kernel_rfl) (by kernel_rfl)
  have h32 := @run_callFunc_extern Tryd.prog 95 _ (ReflectliteType.method fun t => do Rtype.noPackHeld "Comparable" t; pure (.bool (← typeInfo t).comparable)) Tryd.func95 (by kernel_rfl) (by kernel_rfl) (by kernel_rfl) (by kernel_rfl)
  have tT := Tryd.typeOfE
  have cT := Tryd.comparableE
  have mR := Tryd.methodComparable
  have n1 := Tryd.noIsF
  have n2 := Tryd.noIsE
  have n3 := Tryd.noUnE
  have n4 := Tryd.noUnsE
  have n5 := Tryd.unF
  have n6 := Tryd.methodUnwrap
  have hty := run_eql_iface_types (P := Tryd.prog) 56 30 (.pointer (some ⟨f, 0, none⟩)) (.int .i64 1) Tryd.underlying25 (by decide) w
  have he := Tryd.eq11
  go_enter Tryd.func39, Tryd.ntmps39
  go_wp2
  refine wp_loop_rounds 2 ?_
  rw [rounds_succ]
  go_wp2
  rw [rounds_succ]
  go_wp2
  go_ret
  exact ⟨rfl, rfl⟩

set_option maxRecDepth 100000 in
set_option maxHeartbeats 2000000 in
theorem is_nst (f g a1 a2 : Nat) (w : World) (hb : Blk w f (nst a1 g) 58) (hb2 : Blk w g (flt a2 1) 58) : IsShort (.iface 56 (.pointer (some ⟨f, 0, none⟩))) true w := by
  unfold IsShort
  have c1 : w.cell? ⟨f, 1, none⟩ = some (.iface 56 (.pointer (some ⟨g, 0, none⟩))) := by rw [Blk.cell hb]; rfl
  have c2 : w.cell? ⟨g, 1, none⟩ = some (.iface 30 (.int .i64 1)) := by rw [Blk.cell hb2]; rfl
  clear hb hb2
  have h8 := @run_callFunc_extern Tryd.prog 56 _ ReflectliteType.typeOf Tryd.func56 (by kernel_rfl) (by kernel_rfl) (by kernel_rfl) (by kernel_rfl)
  have h32 := @run_callFunc_extern Tryd.prog 95 _ (ReflectliteType.method fun t => do Rtype.noPackHeld "Comparable" t; pure (.bool (← typeInfo t).comparable)) Tryd.func95 (by kernel_rfl) (by kernel_rfl) (by kernel_rfl) (by kernel_rfl)
  have tT := Tryd.typeOfE
  have cT := Tryd.comparableE
  have mR := Tryd.methodComparable
  have n1 := Tryd.noIsF
  have n2 := Tryd.noIsE
  have n3 := Tryd.noUnE
  have n4 := Tryd.noUnsE
  have n5 := Tryd.unF
  have n6 := Tryd.methodUnwrap
  have hty := run_eql_iface_types (P := Tryd.prog) 56 30 (.pointer (some ⟨f, 0, none⟩)) (.int .i64 1) Tryd.underlying25 (by decide) w
  have hty2 := run_eql_iface_types (P := Tryd.prog) 56 30 (.pointer (some ⟨g, 0, none⟩)) (.int .i64 1) Tryd.underlying25 (by decide) w
  have he := Tryd.eq11
  go_enter Tryd.func39, Tryd.ntmps39
  go_wp2
  refine wp_loop_rounds 3 ?_
  rw [rounds_succ]
  go_wp2
  rw [rounds_succ]
  go_wp2
  rw [rounds_succ]
  go_wp2
  go_ret
  exact ⟨rfl, rfl⟩

theorem is_nil (w : World) : IsShort .nilIface false w := by
  unfold IsShort
  have hn := run_eql_iface_nil_left (P := Tryd.prog) w 30 (.int .i64 1) Tryd.underlying25
  go_enter Tryd.func39, Tryd.ntmps39
  go_wp2
  go_ret
  exact ⟨rfl, rfl⟩

set_option maxRecDepth 100000 in
set_option maxHeartbeats 2000000 in
theorem is_sum (w : World) : IsShort (.iface 30 (.int .i64 13)) false w := by
  unfold IsShort
  have h8 := @run_callFunc_extern Tryd.prog 56 _ ReflectliteType.typeOf Tryd.func56 (by kernel_rfl) (by kernel_rfl) (by kernel_rfl) (by kernel_rfl)
  have h32 := @run_callFunc_extern Tryd.prog 95 _ (ReflectliteType.method fun t => do Rtype.noPackHeld "Comparable" t; pure (.bool (← typeInfo t).comparable)) Tryd.func95 (by kernel_rfl) (by kernel_rfl) (by kernel_rfl) (by kernel_rfl)
  have tT := Tryd.typeOfE
  have cT := Tryd.comparableE
  have mR := Tryd.methodComparable
  have n1 := Tryd.noIsF
  have n2 := Tryd.noIsE
  have n3 := Tryd.noUnE
  have n4 := Tryd.noUnsE
  have n5 := Tryd.unF
  have n6 := Tryd.methodUnwrap
  have he := Tryd.eq131
  go_enter Tryd.func39, Tryd.ntmps39
  go_wp2
  refine wp_loop_rounds 1 ?_
  rw [rounds_succ]
  go_wp2
  go_ret
  exact ⟨rfl, rfl⟩
end Go.Proofs.YtcmdemblegdelaaDoor
