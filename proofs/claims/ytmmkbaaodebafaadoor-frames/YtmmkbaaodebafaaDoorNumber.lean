import Derived.Test.YtmmkbaaodebafaaDoorSum
import Derived.Test.YtmmkbaaodebafaaDoorLe
namespace Go.Proofs.YtmmkbaaodebafaaDoor
open Go.RowKit Jr

theorem or_join (u x k : Nat) (hk : k < 8) (hu : u < 256 ^ k) (hx : x < 256) : bits .or .u64 (u : Int) (IntKind.u64.wrap ((x : Int) * 2 ^ (8 * k))) = ((u + x * 256 ^ k : Nat) : Int) := by
  have e : (256 : Nat) ^ k = 2 ^ (8 * k) := by rw [show (256 : Nat) = 2 ^ 8 from rfl, ← Nat.pow_mul]
  have e64 : (2 : Nat) ^ (8 * k) * 256 ≤ 18446744073709551616 := by
    have : (2 : Nat) ^ (8 * k + 8) ≤ 2 ^ 64 := Nat.pow_le_pow_right (by omega) (by omega)
    rw [Nat.pow_add] at this; simpa using this
  have hp : 0 < (2 : Nat) ^ (8 * k) := Nat.pos_of_ne_zero (by simp)
  have hm : x * 2 ^ (8 * k) < 18446744073709551616 := by
    have h1 : x * 2 ^ (8 * k) ≤ 255 * 2 ^ (8 * k) := Nat.mul_le_mul_right _ (by omega)
    omega
  have ew : IntKind.u64.wrap ((x : Int) * 2 ^ (8 * k)) = ((x * 2 ^ (8 * k) : Nat) : Int) := by
    rw [IntKind.wrap_u64]
    have : (x : Int) * 2 ^ (8 * k) = ((x * 2 ^ (8 * k) : Nat) : Int) := by simp
    rw [this]; omega
  rw [ew, u64_or_nat _ _ (by rw [e] at hu; omega) hm, e]
  rw [e] at hu
  rw [Nat.or_comm, nat_join (8 * k) (x * 2 ^ (8 * k)) u (Nat.mul_mod_left _ _) hu, Nat.add_comm]

/-- journal.number. -/
theorem jnumber (b off len cap : Nat) (z : Nat → Nat) (w : World) (hl : len ≤ 8) (hz : ∀ i, i < len → z i < 256)
    (hc : ∀ i, i < len → w.cell? ⟨b, off + i, none⟩ = some (.int .u8 (z i : Nat))) :
    Calls Tryd.prog 30 #[.slice (some ⟨b, off, none⟩) len cap] w fun e w' => e = .returned (.int .u64 (un z len : Nat)) ∧ w' = w := by
  go_enter Tryd.func30, Tryd.ntmps30
  go_wp2
  go_loop [3, 8] (fun s i => ∃ k : Nat, k ≤ len ∧ i = .int .i64 k ∧ s = .int .u64 (un z k : Nat)) (fun _ i => len - (intOf i).toNat)
  case atStart => exact ⟨0, Nat.zero_le _, rfl, rfl⟩
  case round =>
    obtain ⟨k, hk, rfl, rfl⟩ := hrel
    by_cases hlt : k < len
    · have hcell := hc k hlt
      have hzk := hz k hlt
      have hu := un_lt z k (fun i hi => hz i (by omega))
      have HU : Hid (un z k < 256 ^ k) := hu
      clear hu
      go_wp2
      go_round
      case rel => exact ⟨k + 1, by omega, by go_num, by rw [or_join _ _ _ (by omega) HU.out hzk]; rfl⟩
      case measure => simp [intOf]; omega
    · go_wp2
      go_ret
      exact ⟨by rw [← show k = len by omega]; rfl, rfl⟩

/-- journalref.read. -/
theorem rread (b off len cap at0 n : Nat) (z : Nat → Nat) (w : World) (hl : len ≤ maxLen) (hn : n ≤ 8) (hat : at0 + n ≤ len) (hz : ∀ i, i < len → z i < 256)
    (hc : ∀ i, i < len → w.cell? ⟨b, off + i, none⟩ = some (.int .u8 (z i : Nat))) :
    Calls Tryd.prog 24 #[.slice (some ⟨b, off, none⟩) len cap, .int .i64 at0, .int .i64 n] w fun e w' => e = .returned (.int .u64 (un (fun i => z (at0 + i)) n : Nat)) ∧ w' = w := by
  unfold maxLen at hl
  go_enter Tryd.func24, Tryd.ntmps24
  go_wp2
  go_loop [7, 8] (fun s i => ∃ k : Nat, k ≤ n ∧ i = .int .i64 ((n : Int) - 1 - k) ∧ s = .int .u64 (top (fun i => z (at0 + i)) n k : Nat)) (fun _ i => (intOf i + 1).toNat)
  case atStart => exact ⟨0, Nat.zero_le _, by simp, rfl⟩
  case round =>
    obtain ⟨k, hk, rfl, rfl⟩ := hrel
    by_cases hlt : k < n
    · have hcell := hc (at0 + (n - (k + 1))) (by omega)
      have hzk := hz (at0 + (n - (k + 1))) (by omega)
      have hu : top (fun i => z (at0 + i)) n k < 256 ^ k := by rw [top_eq _ _ _ hk]; exact un_lt _ _ (fun i hi => hz _ (by omega))
      have hu2 : top (fun i => z (at0 + i)) n k < 256 ^ 7 := Nat.lt_of_lt_of_le hu (Nat.pow_le_pow_right (by omega) (by omega))
      have HU : Hid (top (fun i => z (at0 + i)) n k < 256 ^ k) := hu
      clear hu
      have ei : (at0 : Int) + ((n : Int) - 1 - k) = ((at0 + (n - (k + 1)) : Nat) : Int) := by omega
      go_wp2
      go_round
      case rel => exact ⟨k + 1, by omega, congrArg (Value.int .i64) (by omega), congrArg (Value.int .u64) (by simp [top])⟩
      case measure => simp [intOf]; omega
    · go_wp2
      go_ret
      exact ⟨by have e : k = n := by omega
                subst e; rw [← top_all]; rfl, rfl⟩
end Go.Proofs.YtmmkbaaodebafaaDoor
