import Derived.Test.YtbnmdjagmlbgiaaDoorSen
import Derived.Test.YtbnmdjagmlbgiaaDoorOwn
namespace Go.Proofs.YtbnmdjagmlbgiaaDoor
open Go.RowKit

abbrev ev (v p : Int) (st d : ByteArray) : Array Value := #[.int .i64 v, .int .i64 p, .string st, .string d]
/-- 0: it can be a record; 1, 2, 3: which rule it breaks. -/
def may (st d : ByteArray) (v p : Int) : Nat := if st.size = 0 ∨ 12 < st.size then 1 else if 24 < d.size then 2 else if v < 1 ∨ p < 0 then 3 else 0
def errv (a : Nat → Addr) : Nat → Value
  | 1 => .iface 113 (.pointer (some (a 0)))
  | 2 => .iface 113 (.pointer (some (a 2)))
  | 3 => .iface 113 (.pointer (some (a 1)))
  | _ => .nilIface

theorem may_cases (st d : ByteArray) (v p : Int) : (st.size = 0 ∧ may st d v p = 1) ∨ (st.size ≠ 0 ∧ 12 < st.size ∧ may st d v p = 1) ∨ (st.size ≠ 0 ∧ ¬ 12 < st.size ∧ 24 < d.size ∧ may st d v p = 2) ∨
    (st.size ≠ 0 ∧ ¬ 12 < st.size ∧ ¬ 24 < d.size ∧ v < 1 ∧ may st d v p = 3) ∨ (st.size ≠ 0 ∧ ¬ 12 < st.size ∧ ¬ 24 < d.size ∧ ¬ v < 1 ∧ p < 0 ∧ may st d v p = 3) ∨ (st.size ≠ 0 ∧ ¬ 12 < st.size ∧ ¬ 24 < d.size ∧ ¬ v < 1 ∧ ¬ p < 0 ∧ may st d v p = 0) := by
  unfold may
  by_cases h1 : st.size = 0
  · simp [h1]
  by_cases h2 : 12 < st.size
  · simp [h1, h2]
  by_cases h3 : 24 < d.size
  · simp [h1, h2, h3]
  by_cases h4 : v < 1
  · simp [h1, h2, h3, h4]
  by_cases h5 : p < 0
  · simp [h1, h2, h3, h4, h5]
  · simp [h1, h2, h3, h4, h5]

set_option maxHeartbeats 1000000 in
theorem jeventError (a : Nat → Addr) (v p : Int) (st d : ByteArray) (w : World) (hs : Sen 3 w a) (hst : st.size ≤ maxLen) (hd : d.size ≤ maxLen) :
    Calls Tryd.prog 27 #[.agg (ev v p st d)] w fun e w' => e = .returned (errv a (may st d v p)) ∧ w' = w.alloc (.cells (ev v p st d) 56) := by
  unfold maxLen at hst hd
  have hs2 := hs.on ((Below.refl _ _).alloc (Nat.le_refl _) (.cells (ev v p st d) 56)) (Nat.le_refl _)
  have g0 := hs2.g0 (by omega)
  have g1 := hs2.g1 (by omega)
  have g2 := hs2.g2 (by omega)
  clear hs hs2
  rcases may_cases st d v p with ⟨h1, h⟩ | ⟨h1, h2, h⟩ | ⟨h1, h2, h3, h⟩ | ⟨h1, h2, h3, h4, h⟩ | ⟨h1, h2, h3, h4, h5, h⟩ | ⟨h1, h2, h3, h4, h5, h⟩
  all_goals
    rw [h]
    clear h
  · go_enter Tryd.func27, Tryd.ntmps27
    go_wp2
    go_ret
    exact ⟨rfl, rfl⟩
  all_goals
    have h1' : ((st.size : Int) == 0) = false := by rw [beq_eq_false_iff_ne]; omega
    go_enter Tryd.func27, Tryd.ntmps27
    go_wp2
    go_ret
    exact ⟨rfl, rfl⟩
end Go.Proofs.YtbnmdjagmlbgiaaDoor
