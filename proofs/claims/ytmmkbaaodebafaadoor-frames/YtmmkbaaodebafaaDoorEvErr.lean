import Derived.Test.YtmmkbaaodebafaaDoorSen
import Derived.Test.YtmmkbaaodebafaaDoorOwn
namespace Go.Proofs.YtmmkbaaodebafaaDoor
open Go.RowKit

abbrev ev (v p : Int) (st d : ByteArray) : Array Value := #[.int .i64 v, .int .i64 p, .string st, .string d]
/-- 0: it can be a record; 1, 2, 3: which rule it breaks. -/
def may (st d : ByteArray) (v p : Int) : Nat := if st.size = 0 ∨ 12 < st.size then 1 else if 24 < d.size then 2 else if v < 1 ∨ p < 0 then 3 else 0
def errv (a : Nat → Addr) : Nat → Value
  | 1 => .iface 114 (.pointer (some (a 0)))
  | 2 => .iface 114 (.pointer (some (a 2)))
  | 3 => .iface 114 (.pointer (some (a 1)))
  | _ => .nilIface

theorem may_cases (st d : ByteArray) (v p : Int) : (st.size = 0 ∧ may st d v p = 1) ∨ (st.size ≠ 0 ∧ 12 < st.size ∧ may st d v p = 1) ∨ (st.size ≠ 0 ∧ ¬ 12 < st.size ∧ 24 < d.size ∧ may st d v p = 2) ∨
    (st.size ≠ 0 ∧ ¬ 12 < st.size ∧ ¬ 24 < d.size ∧ v < 1 ∧ may st d v p = 3) ∨ (st.size ≠ 0 ∧ ¬ 12 < st.size ∧ ¬ 24 < d.size ∧ ¬ v < 1 ∧ p < 0 ∧ may st d v p = 3) ∨ (st.size ≠ 0 ∧ ¬ 12 < st.size ∧ ¬ 24 < d.size ∧ ¬ v < 1 ∧ ¬ p < 0 ∧ may st d v p = 0) := by
  unfold may
  by_cases h1 : st.size = 0
  · simp [h1]
  by_cases h2 : 12 < st.size
  · simp [h1, h2]
  by_cases h3 : 24 < d.size
  · simp [h1, h2, h3]
  by_cases h4 : v < 1
  · simp [h1, h2, h3, h4]
  by_cases h5 : p < 0
  · simp [h1, h2, h3, h4, h5]
  · simp [h1, h2, h3, h4, h5]

theorem jisStream (st : ByteArray) (w : World) (hst : st.size ≤ maxLen) :
    Calls Tryd.prog 33 #[.string st] w fun e w' => e = .returned (.bool (decide (0 < st.size ∧ st.size ≤ 12))) ∧ w' = w := by
  unfold maxLen at hst
  go_enter Tryd.func33, Tryd.ntmps33
  go_wp2
  all_goals
    go_ret
    first
      | exact ⟨rfl, rfl⟩
      | (refine ⟨congrArg Ending.returned (congrArg Value.bool ?_), rfl⟩; first | (rw [decide_eq_decide]; omega) | (symm; rw [decide_eq_false_iff_not]; omega) | (symm; rw [decide_eq_true_iff]; omega))
      | (exfalso; omega)
theorem jisData (d : ByteArray) (w : World) (hd : d.size ≤ maxLen) :
    Calls Tryd.prog 34 #[.string d] w fun e w' => e = .returned (.bool (decide (d.size ≤ 24))) ∧ w' = w := by
  unfold maxLen at hd
  go_enter Tryd.func34, Tryd.ntmps34
  go_wp2
  all_goals
    go_ret
    first
      | exact ⟨rfl, rfl⟩
      | (refine ⟨congrArg Ending.returned (congrArg Value.bool ?_), rfl⟩; first | (rw [decide_eq_decide]; omega) | (symm; rw [decide_eq_false_iff_not]; omega) | (symm; rw [decide_eq_true_iff]; omega))
      | (exfalso; omega)

set_option maxHeartbeats 1000000 in
theorem jeventError (a : Nat → Addr) (v p : Int) (st d : ByteArray) (w : World) (hs : Sen 3 w a) (hst : st.size ≤ maxLen) (hd : d.size ≤ maxLen) :
    Calls Tryd.prog 27 #[.agg (ev v p st d)] w fun e w' => e = .returned (errv a (may st d v p)) ∧ w' = w.alloc (.cells (ev v p st d) 56) := by
  have HS : Hid (st.size ≤ maxLen) := hst
  have HD : Hid (d.size ≤ maxLen) := hd
  have hs2 := hs.on ((Below.refl _ _).alloc (Nat.le_refl _) (.cells (ev v p st d) 56)) (Nat.le_refl _)
  have g0 := hs2.g0 (by omega)
  have g1 := hs2.g1 (by omega)
  have g2 := hs2.g2 (by omega)
  clear hs hs2 hst hd
  rcases may_cases st d v p with ⟨h1, h⟩ | ⟨h1, h2, h⟩ | ⟨h1, h2, h3, h⟩ | ⟨h1, h2, h3, h4, h⟩ | ⟨h1, h2, h3, h4, h5, h⟩ | ⟨h1, h2, h3, h4, h5, h⟩
  all_goals
    rw [h]
    clear h
  · have hS : decide (0 < st.size ∧ st.size ≤ 12) = false := by simp; omega
    clear h1
    go_enter Tryd.func27, Tryd.ntmps27
    go_wp2_with (go_at_call 33; refine (jisStream st _ HS.out).mono ?_; rintro e w' ⟨rfl, rfl⟩; rw [hS])
    go_ret
    exact ⟨rfl, rfl⟩
  · have hS : decide (0 < st.size ∧ st.size ≤ 12) = false := by simp; omega
    clear h1 h2
    go_enter Tryd.func27, Tryd.ntmps27
    go_wp2_with (go_at_call 33; refine (jisStream st _ HS.out).mono ?_; rintro e w' ⟨rfl, rfl⟩; rw [hS])
    go_ret
    exact ⟨rfl, rfl⟩
  · have hS : decide (0 < st.size ∧ st.size ≤ 12) = true := by simp; omega
    have hD : decide (d.size ≤ 24) = false := by simp; omega
    clear h1 h2 h3
    go_enter Tryd.func27, Tryd.ntmps27
    go_wp2_with (first
      | (go_at_call 33; refine (jisStream st _ HS.out).mono ?_; rintro e w' ⟨rfl, rfl⟩; rw [hS])
      | (go_at_call 34; refine (jisData d _ HD.out).mono ?_; rintro e w' ⟨rfl, rfl⟩; rw [hD]))
    go_ret
    exact ⟨rfl, rfl⟩
  all_goals
    have hS : decide (0 < st.size ∧ st.size ≤ 12) = true := by simp; omega
    have hD : decide (d.size ≤ 24) = true := by simp; omega
    clear h1 h2 h3
    go_enter Tryd.func27, Tryd.ntmps27
    go_wp2_with (first
      | (go_at_call 33; refine (jisStream st _ HS.out).mono ?_; rintro e w' ⟨rfl, rfl⟩; rw [hS])
      | (go_at_call 34; refine (jisData d _ HD.out).mono ?_; rintro e w' ⟨rfl, rfl⟩; rw [hD]))
    go_ret
    exact ⟨rfl, rfl⟩
end Go.Proofs.YtmmkbaaodebafaaDoor
