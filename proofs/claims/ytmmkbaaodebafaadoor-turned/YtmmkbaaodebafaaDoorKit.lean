import Derived.Test.YtmmkbaaodebafaaDoorChecked
import Derived.WalkKit
import Derived.WalkLawsBesides
import Derived.Handy
import Derived.PlainAid
import Derived.Laws.BitsAllLaws
import Derived.Lib.Strings
namespace Go.Proofs.YtmmkbaaodebafaaDoor
open Go.RowKit

theorem mask62 (v : Int) : ∃ m : Nat, m < 4611686018427387904 ∧ bits .and .i64 v 4611686018427387903 = m := by
  have h1 : (BitVec.ofInt 64 v &&& BitVec.ofInt 64 4611686018427387903).toNat ≤ 4611686018427387903 := by
    rw [BitVec.toNat_and]; exact Nat.and_le_right
  refine ⟨(BitVec.ofInt 64 v &&& BitVec.ofInt 64 4611686018427387903).toNat, by omega, ?_⟩
  show IntKind.i64.wrap ((BitVec.ofInt 64 v &&& BitVec.ofInt 64 4611686018427387903).toNat : Int) = _
  rw [IntKind.wrap_i64]; omega

theorem kpick (c : Int) (n : Nat) (w : World) (h1 : -9223372036854775808 ≤ c) (h2 : c ≤ 9223372036854775807) (hn : 0 < n) (hn2 : n ≤ 100000) :
    Calls Tryd.prog 16 #[.int .i64 c, .int .i64 n] w fun e w' => ∃ x : Nat, x < n ∧ e = .returned (.int .i64 x) ∧ w' = w := by
  have hn0 : ((n : Int) == 0) = false := by rw [beq_eq_false_iff_ne]; omega
  by_cases hc : c < 0
  · go_enter Tryd.func16, Tryd.ntmps16
    go_wp2
    go_ret
    obtain ⟨m, hm⟩ : ∃ m : Nat, c + 1 = -(m : Int) := ⟨(-(c + 1)).toNat, by omega⟩
    have e : -(c + 1).tmod (n : Int) = ((m % n : Nat) : Int) := by rw [hm, Int.neg_tmod, Int.neg_neg, Int.ofNat_tmod]
    exact ⟨m % n, Nat.mod_lt _ hn, by show Ending.returned (.int .i64 (-(c + 1).tmod (n : Int))) = _; rw [e], rfl⟩
  · go_enter Tryd.func16, Tryd.ntmps16
    go_wp2
    go_ret
    obtain ⟨m, hm⟩ : ∃ m : Nat, c = (m : Int) := ⟨c.toNat, by omega⟩
    have e : c % (n : Int) = ((m % n : Nat) : Int) := by rw [hm]; rfl
    exact ⟨m % n, Nat.mod_lt _ hn, by show Ending.returned (.int .i64 (c % (n : Int))) = _; rw [e], rfl⟩

theorem ktext (s : ByteArray) (n : Nat) (w : World) (hn : 0 < n) (hn2 : n ≤ 100) (hs : s.size ≤ 9223372036854775807) :
    Calls Tryd.prog 15 #[.string s, .int .i64 n] w fun e w' => ∃ t : ByteArray, t.size ≠ 0 ∧ t.size ≤ n ∧ e = .returned (.string t) ∧ w' = w := by
  by_cases h : n < s.size
  · go_enter Tryd.func15, Tryd.ntmps15
    go_wp2
    go_ret
    exact ⟨s.extract 0 n, by rw [ByteArray.size_extract]; omega, by rw [ByteArray.size_extract]; omega, rfl, rfl⟩
  · by_cases h0 : s.size = 0
    · obtain rfl : s = ⟨#[]⟩ := by
        apply ByteArray.ext; apply Array.eq_empty_of_size_eq_zero; exact h0
      go_enter Tryd.func15, Tryd.ntmps15
      go_wp2
      go_ret
      exact ⟨⟨#[120]⟩, by decide, by show 1 ≤ n; omega, rfl, rfl⟩
    · have he : s.toList.isEmpty = false := by
        cases e : s.toList.isEmpty with
        | false => rfl
        | true =>
          exfalso; apply h0
          have h1 : s.toList = [] := List.isEmpty_iff.1 e
          have h2 : s.data.toList = [] := by rw [← Lib.toList_data]; exact h1
          have h3 : s.data.toList.length = 0 := by rw [h2]; rfl
          simpa using h3
      go_enter Tryd.func15, Tryd.ntmps15
      go_wp2
      go_ret
      exact ⟨s, h0, by omega, rfl, rfl⟩
theorem ktext12 (s : ByteArray) (w : World) (hs : s.size ≤ 9223372036854775807) :
    Calls Tryd.prog 15 #[.string s, .int .i64 12] w fun e w' => ∃ t : ByteArray, t.size ≠ 0 ∧ t.size ≤ 12 ∧ e = .returned (.string t) ∧ w' = w := ktext s 12 w (by omega) (by omega) hs
theorem ktext24 (s : ByteArray) (w : World) (hs : s.size ≤ 9223372036854775807) :
    Calls Tryd.prog 15 #[.string s, .int .i64 24] w fun e w' => ∃ t : ByteArray, t.size ≠ 0 ∧ t.size ≤ 24 ∧ e = .returned (.string t) ∧ w' = w := ktext s 24 w (by omega) (by omega) hs
end Go.Proofs.YtmmkbaaodebafaaDoor
