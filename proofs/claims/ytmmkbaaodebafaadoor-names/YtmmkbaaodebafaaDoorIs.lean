import Derived.Test.YtmmkbaaodebafaaDoorSen
import Derived.Stop.Asserts
import Derived.RowKitTokens
namespace Go.Proofs.YtmmkbaaodebafaaDoor
open Go.RowKit Go.Extern.Stop Go.Stop Go.Extern

theorem isTypeOf (v : Value) (w : World) : (Extern.ReflectliteType.typeOf #[.iface 114 v]).run Tryd.prog w = .ok (.iface 88 (.agg #[.pointer (some ⟨6, 114, none⟩)])) w := by kernel_rfl
theorem isComparable (w : World) : (callFunc 68 #[.agg #[.pointer (some ⟨6, 114, none⟩)]]).run Tryd.prog w = .ok (.value (.bool true)) w := by
  rw [run_callFunc_extern (e := Extern.ReflectliteType.method fun t => do Extern.Rtype.noPackHeld "Comparable" t; pure (.bool (← typeInfo t).comparable)) Tryd.func68 (by kernel_rfl) (by kernel_rfl) (by kernel_rfl) (by kernel_rfl)]
  kernel_rfl
theorem noIsE (v : Value) (xT : TypeId) (w : World) : (Instr.typeAssert (.iface 114 v) xT 90 true).run Tryd.prog w = .ok (.tuple #[.nilIface, .bool false]) w := run_typeAssert_lacksB Tryd.underlying90 (by kernel_rfl) (by kernel_rfl) v xT w
theorem noUnwrapE (v : Value) (xT : TypeId) (w : World) : (Instr.typeAssert (.iface 114 v) xT 93 true).run Tryd.prog w = .ok (.tuple #[.nilIface, .bool false]) w := run_typeAssert_lacksB Tryd.underlying93 (by kernel_rfl) (by kernel_rfl) v xT w
theorem noUnwrapsE (v : Value) (xT : TypeId) (w : World) : (Instr.typeAssert (.iface 114 v) xT 95 true).run Tryd.prog w = .ok (.tuple #[.nilIface, .bool false]) w := run_typeAssert_lacksB Tryd.underlying95 (by kernel_rfl) (by kernel_rfl) v xT w
theorem hasIsF (v : Value) (xT : TypeId) (w : World) : (Instr.typeAssert (.iface 47 v) xT 90 true).run Tryd.prog w = .ok (.tuple #[.iface 47 v, .bool true]) w := run_typeAssert_hasB Tryd.underlying90 (by kernel_rfl) v xT w
theorem hasUnwrapF (v : Value) (xT : TypeId) (w : World) : (Instr.typeAssert (.iface 47 v) xT 93 true).run Tryd.prog w = .ok (.tuple #[.iface 47 v, .bool true]) w := run_typeAssert_hasB Tryd.underlying93 (by kernel_rfl) v xT w

set_option maxHeartbeats 2000000 in
/-- errors.Is of a FailError that has the sentinel x behind it, against the sentinel y. -/
theorem is_fail (a : Nat → Addr) (b x y : Nat) (w : World) (hs : Sen 5 w a) (hx : x < 5) (hy : y < 5) (hc : w.cell? ⟨b, 0, none⟩ = some (.iface 114 (.pointer (some (a x))))) (ans : Bool) (h : (y = 4 ∧ ans = true) ∨ (y ≠ 4 ∧ x = y ∧ ans = true) ∨ (y ≠ 4 ∧ x ≠ y ∧ ans = false)) :
    Calls Tryd.prog 17 #[.iface 47 (.pointer (some ⟨b, 0, none⟩)), .iface 114 (.pointer (some (a y)))] w fun e w' => e = .returned (.bool ans) ∧ w' = w := by
  have k8 := @run_callFunc_extern Tryd.prog 25 _ Extern.ReflectliteType.typeOf Tryd.func25 (by kernel_rfl) (by kernel_rfl) (by kernel_rfl) (by kernel_rfl)
  have tT := isTypeOf
  have cT := isComparable
  have nE := noIsE
  have uE := noUnwrapE
  have vE := noUnwrapsE
  have iF := hasIsF
  have uF := hasUnwrapF
  have hty := run_eql_iface_types (P := Tryd.prog) 47 114 (.pointer (some ⟨b, 0, none⟩)) (.pointer (some (a y))) Tryd.underlying45 (by decide) w
  have g4 := hs.g4 (by omega)
  rcases h with ⟨rfl, rfl⟩ | ⟨h4, rfl, rfl⟩ | ⟨h4, hxy, rfl⟩
  · have e4 := eqlE_same w (a 4)
    clear hs hc
    go_enter Tryd.func17, Tryd.ntmps17
    go_wp2
    refine wp_loop_rounds 1 ?_
    rw [rounds_succ]
    go_wp2
    go_ret
    exact ⟨rfl, rfl⟩
  · have e4 := hs.eql x 4 hx (by omega) h4
    have ex := eqlE_same w (a x)
    clear hs
    go_enter Tryd.func17, Tryd.ntmps17
    go_wp2
    refine wp_loop_rounds 2 ?_
    rw [rounds_succ]
    go_wp2
    rw [rounds_succ]
    go_wp2
    go_ret
    exact ⟨rfl, rfl⟩
  · have e4 := hs.eql y 4 hy (by omega) h4
    have ex := hs.eql x y hx hy hxy
    clear hs
    go_enter Tryd.func17, Tryd.ntmps17
    go_wp2
    refine wp_loop_rounds 2 ?_
    rw [rounds_succ]
    go_wp2
    rw [rounds_succ]
    go_wp2
    go_ret
    exact ⟨rfl, rfl⟩
end Go.Proofs.YtmmkbaaodebafaaDoor
