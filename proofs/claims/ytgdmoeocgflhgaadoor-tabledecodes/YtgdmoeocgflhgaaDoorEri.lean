import Derived.Test.YtgdmoeocgflhgaaDoorProg
import Derived.WalkKit
import Derived.LaidEql
import Derived.Stop.Asserts
import Derived.RowKitTokens
namespace Go.Proofs.YtgdmoeocgflhgaaDoor
open Go.RowKit Go.Extern.Stop Go.Stop Go.Extern

/-- What the model does at (rtype).Comparable. -/
def cmpX : Array Value → Sem Value := Extern.ReflectliteType.method fun t => do Extern.Rtype.noPackHeld "Comparable" t; pure (.bool (← typeInfo t).comparable)
theorem isTypeE (v : Value) (w : World) : (Extern.ReflectliteType.typeOf #[.iface 111 v]).run Tryd.prog w = .ok (.iface 95 (.agg #[.pointer (some ⟨2, 111, none⟩)])) w := by kernel_rfl
theorem isTypeN (v : Value) (w : World) : (Extern.ReflectliteType.typeOf #[.iface 32 v]).run Tryd.prog w = .ok (.iface 95 (.agg #[.pointer (some ⟨2, 32, none⟩)])) w := by kernel_rfl
theorem isCompE (w : World) : (cmpX #[.agg #[.pointer (some ⟨2, 111, none⟩)]]).run Tryd.prog w = .ok (.bool true) w := by kernel_rfl
theorem isCompN (w : World) : (cmpX #[.agg #[.pointer (some ⟨2, 32, none⟩)]]).run Tryd.prog w = .ok (.bool true) w := by kernel_rfl
theorem isMethod (v : Value) (w : World) : (Go.method 245 95 v "Comparable").run Tryd.prog w = .ok (63, v) w := by kernel_rfl
theorem isCmpE : (Tryd.prog.info? 111).map (·.comparable) = some true := by kernel_rfl
theorem isCmpN : (Tryd.prog.info? 32).map (·.comparable) = some true := by kernel_rfl
theorem isSizeE : (Tryd.prog.info? 133).map (·.size) = some 1 := by kernel_rfl

theorem noIsP (v : Value) (xT : TypeId) (w : World) : (Instr.typeAssert (.iface 37 v) xT 97 true).run Tryd.prog w = .ok (.tuple #[.nilIface, .bool false]) w := run_typeAssert_lacksB Tryd.underlying97 (by kernel_rfl) (by kernel_rfl) v xT w
theorem noIsB (v : Value) (xT : TypeId) (w : World) : (Instr.typeAssert (.iface 55 v) xT 97 true).run Tryd.prog w = .ok (.tuple #[.nilIface, .bool false]) w := run_typeAssert_lacksB Tryd.underlying97 (by kernel_rfl) (by kernel_rfl) v xT w
theorem noIsN (v : Value) (xT : TypeId) (w : World) : (Instr.typeAssert (.iface 32 v) xT 97 true).run Tryd.prog w = .ok (.tuple #[.nilIface, .bool false]) w := run_typeAssert_lacksB Tryd.underlying97 (by kernel_rfl) (by kernel_rfl) v xT w
theorem noIsE (v : Value) (xT : TypeId) (w : World) : (Instr.typeAssert (.iface 111 v) xT 97 true).run Tryd.prog w = .ok (.tuple #[.nilIface, .bool false]) w := run_typeAssert_lacksB Tryd.underlying97 (by kernel_rfl) (by kernel_rfl) v xT w
theorem hasUnP (v : Value) (xT : TypeId) (w : World) : (Instr.typeAssert (.iface 37 v) xT 100 true).run Tryd.prog w = .ok (.tuple #[.iface 37 v, .bool true]) w := run_typeAssert_hasB Tryd.underlying100 (by kernel_rfl) v xT w
theorem hasUnB (v : Value) (xT : TypeId) (w : World) : (Instr.typeAssert (.iface 55 v) xT 100 true).run Tryd.prog w = .ok (.tuple #[.iface 55 v, .bool true]) w := run_typeAssert_hasB Tryd.underlying100 (by kernel_rfl) v xT w
theorem noUnN (v : Value) (xT : TypeId) (w : World) : (Instr.typeAssert (.iface 32 v) xT 100 true).run Tryd.prog w = .ok (.tuple #[.nilIface, .bool false]) w := run_typeAssert_lacksB Tryd.underlying100 (by kernel_rfl) (by kernel_rfl) v xT w
theorem noUnsN (v : Value) (xT : TypeId) (w : World) : (Instr.typeAssert (.iface 32 v) xT 101 true).run Tryd.prog w = .ok (.tuple #[.nilIface, .bool false]) w := run_typeAssert_lacksB Tryd.underlying101 (by kernel_rfl) (by kernel_rfl) v xT w
theorem methUnP (v : Value) (w : World) : (Go.method 245 37 v "Unwrap").run Tryd.prog w = .ok (55, v) w := by kernel_rfl
theorem methUnB (v : Value) (w : World) : (Go.method 245 55 v "Unwrap").run Tryd.prog w = .ok (57, v) w := by kernel_rfl
theorem eql_int (w : World) (a b : Int) : (binOp .eql 27 (.iface 32 (.int .i64 a)) (.iface 32 (.int .i64 b))).run Tryd.prog w = .ok (.bool (a == b)) w := by
  obtain ⟨i, hi, hcmp⟩ := Option.map_eq_some_iff.1 isCmpN
  have h : ∀ d : Nat, (Op.equalIn (d + 2) 27 (.iface 32 (.int .i64 a)) (.iface 32 (.int .i64 b))).run Tryd.prog w = .ok (a == b) w := fun d => by
    simp [Op.equalIn, run_underlying Tryd.underlying27, run_underlying Tryd.underlying32, typeInfo, hi, hcmp]
  simp only [binOp]
  simp [Op.equal, Op.maxDepth, h 9998]

set_option maxHeartbeats 4000000 in
/-- errors.Is of a *placed that holds the sentinel, and the sentinel. -/
theorem is_placed (pb : Nat) (b : Addr) (w : World) (h1 : w.cell? ⟨pb, 1, none⟩ = some (.iface 111 (.pointer (some b)))) :
    Calls Tryd.prog 9 #[.iface 37 (.pointer (some ⟨pb, 0, none⟩)), .iface 111 (.pointer (some b))] w fun e w' => e = .returned (.bool true) ∧ w' = w := by
  obtain ⟨i, hi, hcmp⟩ := Option.map_eq_some_iff.1 isCmpE
  obtain ⟨j, hj, hjs⟩ := Option.map_eq_some_iff.1 isSizeE
  have h22 := @run_callFunc_extern Tryd.prog 22 _ Extern.ReflectliteType.typeOf Tryd.func22 (by kernel_rfl) (by kernel_rfl) (by kernel_rfl) (by kernel_rfl)
  have h63 := @run_callFunc_extern Tryd.prog 63 _ cmpX Tryd.func63 (by kernel_rfl) (by kernel_rfl) (by kernel_rfl) (by kernel_rfl)
  have mR := isMethod
  have tT := isTypeE
  have cT := isCompE
  have n1 := noIsP
  have u1 := hasUnP
  have mU := methUnP
  have heq := run_eql_iface_ptr_same (P := Tryd.prog) w b Tryd.underlying27 Tryd.underlying111 hi hcmp hj
  have hty := run_eql_iface_types (P := Tryd.prog) 37 111 (.pointer (some ⟨pb, 0, none⟩)) (.pointer (some b)) Tryd.underlying27 (by decide) w
  go_enter Tryd.func9, Tryd.ntmps9
  go_wp2
  refine wp_loop_rounds 2 ?_
  rw [rounds_succ]
  go_wp2
  rw [rounds_succ]
  go_wp2
  go_ret
  exact ⟨rfl, rfl⟩

set_option maxHeartbeats 4000000 in
/-- errors.Is of a *Broken, and the sentinel. -/
theorem is_broken (pb : Nat) (b : Addr) (c : Int) (w : World) (h1 : w.cell? ⟨pb, 0, none⟩ = some (.int .i64 c)) :
    Calls Tryd.prog 9 #[.iface 55 (.pointer (some ⟨pb, 0, none⟩)), .iface 111 (.pointer (some b))] w fun e w' => e = .returned (.bool false) ∧ w' = w := by
  have h22 := @run_callFunc_extern Tryd.prog 22 _ Extern.ReflectliteType.typeOf Tryd.func22 (by kernel_rfl) (by kernel_rfl) (by kernel_rfl) (by kernel_rfl)
  have h63 := @run_callFunc_extern Tryd.prog 63 _ cmpX Tryd.func63 (by kernel_rfl) (by kernel_rfl) (by kernel_rfl) (by kernel_rfl)
  have mR := isMethod
  have tT := isTypeE
  have cT := isCompE
  have n1 := noIsB
  have n2 := noIsN
  have u1 := hasUnB
  have u2 := noUnN
  have u3 := noUnsN
  have mU := methUnB
  have hty := run_eql_iface_types (P := Tryd.prog) 55 111 (.pointer (some ⟨pb, 0, none⟩)) (.pointer (some b)) Tryd.underlying27 (by decide) w
  have htz := run_eql_iface_types (P := Tryd.prog) 32 111 (.int .i64 c) (.pointer (some b)) Tryd.underlying27 (by decide) w
  go_enter Tryd.func9, Tryd.ntmps9
  go_wp2
  refine wp_loop_rounds 2 ?_
  rw [rounds_succ]
  go_wp2
  rw [rounds_succ]
  go_wp2
  go_ret
  exact ⟨rfl, rfl⟩

set_option maxHeartbeats 4000000 in
/-- errors.Is of a *Broken, and its code. -/
theorem is_code (pb : Nat) (c : Int) (w : World) (h1 : w.cell? ⟨pb, 0, none⟩ = some (.int .i64 c)) :
    Calls Tryd.prog 9 #[.iface 55 (.pointer (some ⟨pb, 0, none⟩)), .iface 32 (.int .i64 c)] w fun e w' => e = .returned (.bool true) ∧ w' = w := by
  have h22 := @run_callFunc_extern Tryd.prog 22 _ Extern.ReflectliteType.typeOf Tryd.func22 (by kernel_rfl) (by kernel_rfl) (by kernel_rfl) (by kernel_rfl)
  have h63 := @run_callFunc_extern Tryd.prog 63 _ cmpX Tryd.func63 (by kernel_rfl) (by kernel_rfl) (by kernel_rfl) (by kernel_rfl)
  have mR := isMethod
  have tT := isTypeN
  have cT := isCompN
  have n1 := noIsB
  have u1 := hasUnB
  have mU := methUnB
  have hty := run_eql_iface_types (P := Tryd.prog) 55 32 (.pointer (some ⟨pb, 0, none⟩)) (.int .i64 c) Tryd.underlying27 (by decide) w
  have heq := eql_int w c c
  have hcc : (c == c) = true := by simp
  go_enter Tryd.func9, Tryd.ntmps9
  go_wp2
  refine wp_loop_rounds 2 ?_
  rw [rounds_succ]
  go_wp2
  rw [rounds_succ]
  go_wp2
  go_ret
  exact ⟨rfl, rfl⟩
end Go.Proofs.YtgdmoeocgflhgaaDoor
