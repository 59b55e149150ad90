import Derived.Test.YtmmkbaaodebafaaDoorEvErr
import Derived.Stop.Asserts
import Derived.Laws.ResultCell
import Derived.Deep.Cut
namespace Go.Proofs.YtmmkbaaodebafaaDoor
open Go.RowKit

abbrev told (n : Int) : Array Value := #[.int .i64 n, .string ⟨#[]⟩, .int .i64 0, .int .i64 0, .bool false]

theorem noVersion (v : Value) (w : World) : (Instr.typeAssert (.iface 114 v) 45 74 true).run Tryd.prog w = .ok (.tuple #[.pointer none, .bool false]) w := by kernel_rfl
theorem noFail (v : Value) (w : World) : (Instr.typeAssert (.iface 114 v) 45 47 true).run Tryd.prog w = .ok (.tuple #[.pointer none, .bool false]) w := by kernel_rfl

set_option maxHeartbeats 1000000 in
theorem of_nil (w : World) : Calls Tryd.prog 19 #[.nilIface, .pointer none] w fun e w' => e = .returned (.agg (told 0)) ∧ Below w.heap.size w w' := by
  go_enter Tryd.func19, Tryd.ntmps19
  go_wp2
  refine bodyPost_ret (v := .agg (told 0)) (by simp [results, Tryd.results19, go_sem]) rfl ⟨rfl, ?_⟩
  go_grown

abbrev er (a : Nat → Addr) (i : Nat) : Value := .iface 114 (.pointer (some (a i)))
set_option maxHeartbeats 2000000 in
theorem of_stream (a : Nat → Addr) (w : World) (hs : Sen 5 w a) : Calls Tryd.prog 19 #[.iface 114 (.pointer (some (a 0))), .pointer none] w fun e w' => e = .returned (.agg (told 1)) ∧ Below w.heap.size w w' := by
  have nv := noVersion
  have nf := noFail
  have g0 := hs.g0 (by omega)
  have g1 := hs.g1 (by omega)
  have g2 := hs.g2 (by omega)
  have g3 := hs.g3 (by omega)
  have g4 := hs.g4 (by omega)
  have l0 := hs.l0 (by omega)
  have l1 := hs.l1 (by omega)
  have l2 := hs.l2 (by omega)
  have l3 := hs.l3 (by omega)
  have l4 := hs.l4 (by omega)
  have es := fun w => eqlE_same w (a 0)
  have hs2 := hs.on ((((Below.refl _ _).alloc (Nat.le_refl _) (.cells #[.int .i64 0, .string ⟨#[]⟩, .int .i64 0, .int .i64 0, .bool false] 25)).alloc (by simp) (.cells #[.nilIface, er a 0, er a 1, er a 2, .nilIface, er a 3, er a 4] 45))) (Nat.le_refl _)
  clear hs hs2
  go_enter Tryd.func19, Tryd.ntmps19
  go_wp2
  refine wp_loop_rounds 2 ?_
  rw [rounds_succ]
  go_wp2
  rw [rounds_succ]
  go_wp2
  refine bodyPost_ret (v := .agg (told 1)) (by simp [results, Tryd.results19, go_sem]) rfl ⟨rfl, ?_⟩
  go_grown

set_option maxHeartbeats 2000000 in
theorem of_batch (a : Nat → Addr) (w : World) (hs : Sen 5 w a) : Calls Tryd.prog 19 #[.iface 114 (.pointer (some (a 1))), .pointer none] w fun e w' => e = .returned (.agg (told 2)) ∧ Below w.heap.size w w' := by
  have nv := noVersion
  have nf := noFail
  have g0 := hs.g0 (by omega)
  have g1 := hs.g1 (by omega)
  have g2 := hs.g2 (by omega)
  have g3 := hs.g3 (by omega)
  have g4 := hs.g4 (by omega)
  have l0 := hs.l0 (by omega)
  have l1 := hs.l1 (by omega)
  have l2 := hs.l2 (by omega)
  have l3 := hs.l3 (by omega)
  have l4 := hs.l4 (by omega)
  have es := fun w => eqlE_same w (a 1)
  have hs2 := hs.on ((((Below.refl _ _).alloc (Nat.le_refl _) (.cells #[.int .i64 0, .string ⟨#[]⟩, .int .i64 0, .int .i64 0, .bool false] 25)).alloc (by simp) (.cells #[.nilIface, er a 0, er a 1, er a 2, .nilIface, er a 3, er a 4] 45))) (Nat.le_refl _)
  have e0 := hs2.eql 1 0 (by omega) (by omega) (by omega)
  clear hs hs2
  go_enter Tryd.func19, Tryd.ntmps19
  go_wp2
  refine wp_loop_rounds 3 ?_
  rw [rounds_succ]
  go_wp2
  rw [rounds_succ]
  go_wp2
  rw [rounds_succ]
  go_wp2
  refine bodyPost_ret (v := .agg (told 2)) (by simp [results, Tryd.results19, go_sem]) rfl ⟨rfl, ?_⟩
  go_grown

set_option maxHeartbeats 2000000 in
theorem of_data (a : Nat → Addr) (w : World) (hs : Sen 5 w a) : Calls Tryd.prog 19 #[.iface 114 (.pointer (some (a 2))), .pointer none] w fun e w' => e = .returned (.agg (told 3)) ∧ Below w.heap.size w w' := by
  have nv := noVersion
  have nf := noFail
  have g0 := hs.g0 (by omega)
  have g1 := hs.g1 (by omega)
  have g2 := hs.g2 (by omega)
  have g3 := hs.g3 (by omega)
  have g4 := hs.g4 (by omega)
  have l0 := hs.l0 (by omega)
  have l1 := hs.l1 (by omega)
  have l2 := hs.l2 (by omega)
  have l3 := hs.l3 (by omega)
  have l4 := hs.l4 (by omega)
  have es := fun w => eqlE_same w (a 2)
  have hs2 := hs.on ((((Below.refl _ _).alloc (Nat.le_refl _) (.cells #[.int .i64 0, .string ⟨#[]⟩, .int .i64 0, .int .i64 0, .bool false] 25)).alloc (by simp) (.cells #[.nilIface, er a 0, er a 1, er a 2, .nilIface, er a 3, er a 4] 45))) (Nat.le_refl _)
  have e0 := hs2.eql 2 0 (by omega) (by omega) (by omega)
  have e1 := hs2.eql 2 1 (by omega) (by omega) (by omega)
  clear hs hs2
  go_enter Tryd.func19, Tryd.ntmps19
  go_wp2
  refine wp_loop_rounds 4 ?_
  rw [rounds_succ]
  go_wp2
  rw [rounds_succ]
  go_wp2
  rw [rounds_succ]
  go_wp2
  rw [rounds_succ]
  go_wp2
  refine bodyPost_ret (v := .agg (told 3)) (by simp [results, Tryd.results19, go_sem]) rfl ⟨rfl, ?_⟩
  go_grown

/-- What plain.Of tells of the rule that is broken. -/
def tcode : Nat → Int
  | 1 => 1
  | 2 => 3
  | 3 => 2
  | _ => 0
theorem of_any (a : Nat → Addr) (w : World) (hs : Sen 5 w a) (x : Nat) (hx : x < 4) : Calls Tryd.prog 19 #[errv a x, .pointer none] w fun e w' => e = .returned (.agg (told (tcode x))) ∧ Below w.heap.size w w' := by
  match x, hx with
  | 0, _ => exact of_nil w
  | 1, _ => exact of_stream a w hs
  | 2, _ => exact of_data a w hs
  | 3, _ => exact of_batch a w hs
end Go.Proofs.YtmmkbaaodebafaaDoor
