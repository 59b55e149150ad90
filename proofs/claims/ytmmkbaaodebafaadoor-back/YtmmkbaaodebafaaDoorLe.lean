namespace Go.Proofs.YtmmkbaaodebafaaDoor.Jr
/-- The number that n bytes tell, the low one first. -/
def un (z : Nat → Nat) : Nat → Nat
  | 0 => 0
  | n + 1 => un z n + z n * 256 ^ n
theorem un_lt (z : Nat → Nat) (n : Nat) (h : ∀ i, i < n → z i < 256) : un z n < 256 ^ n := by
  induction n with
  | zero => simp [un]
  | succ n ih =>
    have h1 := ih (fun i hi => h i (by omega))
    have h2 := h n (by omega)
    have h3 : z n * 256 ^ n ≤ 255 * 256 ^ n := Nat.mul_le_mul_right _ (by omega)
    simp only [un, Nat.pow_succ]; omega
theorem un_congr {x y : Nat → Nat} {n : Nat} (h : ∀ i, i < n → x i = y i) : un x n = un y n := by
  induction n with
  | zero => rfl
  | succ n ih => simp only [un]; rw [ih (fun i hi => h i (by omega)), h n (by omega)]
/-- The bytes of a number. -/
def dig (v i : Nat) : Nat := v / 256 ^ i % 256
theorem dig_lt (v i : Nat) : dig v i < 256 := Nat.mod_lt _ (by omega)
theorem un_dig (v n : Nat) : un (dig v) n = v % 256 ^ n := by
  induction n with
  | zero => simp [un, Nat.mod_one]
  | succ n ih =>
    simp only [un]
    rw [ih]; unfold dig
    rw [Nat.pow_succ, Nat.mod_mul, Nat.mul_comm]
theorem dig_un (z : Nat → Nat) (n i : Nat) (h : ∀ i, i < n → z i < 256) (hi : i < n) : dig (un z n) i = z i := by
  induction n with
  | zero => omega
  | succ n ih =>
    have h1 := un_lt z n (fun i hi => h i (by omega))
    unfold dig
    simp only [un]
    by_cases e : i = n
    · subst e
      rw [Nat.add_mul_div_right _ _ (Nat.pos_of_ne_zero (by simp)), Nat.div_eq_of_lt h1, Nat.zero_add]
      exact Nat.mod_eq_of_lt (h i (by omega))
    · have hin : i < n := by omega
      have e1 : 256 ^ n = 256 ^ i * (256 ^ (n - i - 1) * 256) := by
        rw [← Nat.pow_succ, ← Nat.pow_add]; congr 1; omega
      have e2 : un z n + z n * 256 ^ n = un z n + 256 ^ i * (z n * (256 ^ (n - i - 1) * 256)) := by
        rw [e1, Nat.mul_left_comm]
      rw [e2, Nat.add_mul_div_left _ _ (Nat.pos_of_ne_zero (by simp)), ← Nat.mul_assoc, Nat.add_mul_mod_self_right]
      exact ih (fun i hi => h i (by omega)) hin
/-- What is read from the top: the bytes from i on. -/
def top (z : Nat → Nat) (n : Nat) : Nat → Nat
  | 0 => 0
  | k + 1 => top z n k * 256 + z (n - (k + 1))
theorem un_shift (z : Nat → Nat) (n : Nat) : un z (n + 1) = z 0 + 256 * un (fun i => z (i + 1)) n := by
  induction n with
  | zero => simp [un]
  | succ n ih =>
    rw [un, ih]; simp only [un]
    rw [Nat.mul_add, Nat.pow_succ, Nat.add_assoc]; congr 1; congr 1
    rw [← Nat.mul_assoc, Nat.mul_comm]
theorem top_eq (z : Nat → Nat) (n k : Nat) (hk : k ≤ n) : top z n k = un (fun i => z (n - k + i)) k := by
  induction k with
  | zero => rfl
  | succ k ih =>
    have e1 : un (fun i => z (n - k + i)) k = un (fun i => z (n - (k + 1) + (i + 1))) k := un_congr (fun i _ => by show z _ = z _; congr 1; omega)
    have e2 := un_shift (fun i => z (n - (k + 1) + i)) k
    have e3 : z (n - (k + 1) + 0) = z (n - (k + 1)) := rfl
    rw [e2, top, ih (by omega)]
    omega
theorem top_all (z : Nat → Nat) (n : Nat) : top z n n = un z n := by
  rw [top_eq z n n (Nat.le_refl _)]; apply un_congr; intro i _; congr 1; omega
theorem dig_succ (v i : Nat) : dig (v / 256) i = dig v (i + 1) := by
  unfold dig; rw [Nat.div_div_eq_div_mul, Nat.pow_succ, Nat.mul_comm]
end Go.Proofs.YtmmkbaaodebafaaDoor.Jr
