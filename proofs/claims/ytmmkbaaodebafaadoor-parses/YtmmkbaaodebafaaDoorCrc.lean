namespace Go.Proofs.YtmmkbaaodebafaaDoor.Jr
/-- One bit's step of the check. -/
def stp (c : Nat) : Nat := if c % 2 = 1 then (c / 2) ^^^ 2197175160 else c / 2
def stps : Nat → Nat → Nat
  | 0, c => c
  | n + 1, c => stps n (stp c)
def bst (c b : Nat) : Nat := stps 8 (c ^^^ b)
def fold (c : Nat) (l : List Nat) : Nat := l.foldl bst c
def crc (l : List Nat) : Nat := 4294967295 ^^^ fold 4294967295 l

theorem xor_lt {a b : Nat} (ha : a < 4294967296) (hb : b < 4294967296) : a ^^^ b < 4294967296 :=
  Nat.xor_lt_two_pow (n := 32) ha hb
theorem stp_lt {c : Nat} (h : c < 4294967296) : stp c < 4294967296 := by
  unfold stp; split
  · exact xor_lt (by omega) (by omega)
  · omega
theorem stps_lt (n : Nat) {c : Nat} (h : c < 4294967296) : stps n c < 4294967296 := by
  induction n generalizing c with
  | zero => exact h
  | succ n ih => exact ih (stp_lt h)
theorem bst_lt {c b : Nat} (h : c < 4294967296) (hb : b < 256) : bst c b < 4294967296 :=
  stps_lt 8 (xor_lt h (by omega))
theorem stps_succ' (n c : Nat) : stps (n + 1) c = stp (stps n c) := by
  induction n generalizing c with
  | zero => rfl
  | succ n ih => show stps (n + 1) (stp c) = stp (stps n (stp c)); exact ih _
theorem fold_snoc (c : Nat) (l : List Nat) (b : Nat) : fold c (l ++ [b]) = bst (fold c l) b := by
  simp [fold]
theorem fold_lt {c : Nat} (l : List Nat) (h : c < 4294967296) (hl : ∀ b ∈ l, b < 256) : fold c l < 4294967296 := by
  induction l generalizing c with
  | nil => exact h
  | cons x l ih =>
    have := hl x (by simp)
    exact ih (bst_lt h this) (fun b hb => hl b (by simp [hb]))
theorem crc_lt (l : List Nat) (hl : ∀ b ∈ l, b < 256) : crc l < 4294967296 :=
  xor_lt (by omega) (fold_lt l (by omega) hl)

/-! linear -/
theorem mod2_xor (a b : Nat) : (a ^^^ b) % 2 = (a + b) % 2 := by
  have := Nat.xor_mod_two_eq_one (a := a) (b := b)
  omega
theorem div2_xor (a b : Nat) : (a ^^^ b) / 2 = a / 2 ^^^ b / 2 := Nat.xor_div_two
theorem xor4 (a b c d : Nat) : (a ^^^ b) ^^^ (c ^^^ d) = (a ^^^ c) ^^^ (b ^^^ d) := by
  apply Nat.eq_of_testBit_eq; intro i; simp only [Nat.testBit_xor]
  cases a.testBit i <;> cases b.testBit i <;> cases c.testBit i <;> cases d.testBit i <;> rfl
theorem stp_xor (a b : Nat) : stp (a ^^^ b) = stp a ^^^ stp b := by
  unfold stp
  rw [mod2_xor, div2_xor]
  by_cases ha : a % 2 = 1 <;> by_cases hb : b % 2 = 1
  · rw [if_neg (by omega), if_pos ha, if_pos hb, xor4]; simp
  · rw [if_pos (by omega), if_pos ha, if_neg hb]
    rw [Nat.xor_assoc, Nat.xor_assoc, Nat.xor_comm (b / 2)]
  · rw [if_pos (by omega), if_neg ha, if_pos hb]
    rw [Nat.xor_assoc]
  · rw [if_neg (by omega), if_neg ha, if_neg hb]
theorem stps_xor (n a b : Nat) : stps n (a ^^^ b) = stps n a ^^^ stps n b := by
  induction n generalizing a b with
  | zero => rfl
  | succ n ih => show stps n (stp (a ^^^ b)) = _; rw [stp_xor, ih]; rfl
theorem bst_xor (a b x y : Nat) : bst (a ^^^ b) (x ^^^ y) = bst a x ^^^ bst b y := by
  unfold bst; rw [xor4, stps_xor]
def zipx : List Nat → List Nat → List Nat := List.zipWith (· ^^^ ·)
theorem fold_xor (l m : List Nat) (h : l.length = m.length) (a b : Nat) :
    fold (a ^^^ b) (zipx l m) = fold a l ^^^ fold b m := by
  induction l generalizing m a b with
  | nil => cases m with
    | nil => rfl
    | cons _ _ => simp at h
  | cons x l ih => cases m with
    | nil => simp at h
    | cons y m =>
      show fold (bst (a ^^^ b) (x ^^^ y)) (zipx l m) = fold (bst a x) l ^^^ fold (bst b y) m
      rw [bst_xor]; exact ih m (by simpa using h) _ _
theorem zipx_length (l m : List Nat) (h : l.length = m.length) : (zipx l m).length = l.length := by
  simp [zipx, h]
theorem crc_xor3 (l m k : List Nat) (h1 : l.length = m.length) (h2 : l.length = k.length) :
    crc (zipx (zipx l m) k) = crc l ^^^ crc m ^^^ crc k := by
  unfold crc
  have e : fold 4294967295 (zipx (zipx l m) k) = fold 4294967295 l ^^^ fold 4294967295 m ^^^ fold 4294967295 k := by
    have h3 := fold_xor (zipx l m) k (by rw [zipx_length _ _ h1]; exact h2) (4294967295 ^^^ 4294967295) 4294967295
    rw [fold_xor l m h1] at h3
    exact h3
  rw [e]
  generalize fold 4294967295 l = A
  generalize fold 4294967295 m = B
  generalize fold 4294967295 k = C
  apply Nat.eq_of_testBit_eq; intro i; simp only [Nat.testBit_xor]
  cases A.testBit i <;> cases B.testBit i <;> cases C.testBit i <;> cases (4294967295 : Nat).testBit i <;> rfl

/-! one byte turned -/
theorem stp_ne {c : Nat} (h : c < 4294967296) (h0 : c ≠ 0) : stp c ≠ 0 := by
  unfold stp; split
  · intro e
    have e2 : c / 2 = 2197175160 := by
      have := congrArg (· ^^^ 2197175160) e
      simpa [Nat.xor_assoc] using this
    omega
  · omega
theorem stps_ne (n : Nat) {c : Nat} (h : c < 4294967296) (h0 : c ≠ 0) : stps n c ≠ 0 := by
  induction n generalizing c with
  | zero => exact h0
  | succ n ih => exact ih (stp_lt h) (stp_ne h h0)
theorem xor_eq_zero {a b : Nat} (h : a ^^^ b = 0) : a = b := by
  have := congrArg (· ^^^ b) h
  simpa [Nat.xor_assoc] using this
theorem xor_ne {a b : Nat} (h : a ≠ b) : a ^^^ b ≠ 0 := fun e => h (xor_eq_zero e)
theorem bst_inj_l {a b x : Nat} (ha : a < 4294967296) (hb : b < 4294967296) (h : a ≠ b) : bst a x ≠ bst b x := by
  intro e
  have h1 : bst (a ^^^ b) (x ^^^ x) = 0 := by rw [bst_xor, e]; simp
  simp [bst] at h1
  exact stps_ne 8 (xor_lt ha hb) (xor_ne h) h1
theorem bst_inj_r {a x y : Nat} (hx : x < 256) (hy : y < 256) (h : x ≠ y) : bst a x ≠ bst a y := by
  intro e
  have h1 : bst (a ^^^ a) (x ^^^ y) = 0 := by rw [bst_xor, e]; simp
  simp [bst] at h1
  exact stps_ne 8 (xor_lt (by omega) (by omega)) (xor_ne h) h1
theorem fold_inj {l : List Nat} (hl : ∀ b ∈ l, b < 256) {a b : Nat} (ha : a < 4294967296) (hb : b < 4294967296) (h : a ≠ b) : fold a l ≠ fold b l := by
  induction l generalizing a b with
  | nil => exact h
  | cons x l ih =>
    have hx := hl x (by simp)
    exact ih (fun b hb => hl b (by simp [hb])) (bst_lt ha hx) (bst_lt hb hx) (bst_inj_l ha hb h)
theorem crc_turned (l m : List Nat) (x y : Nat) (hl : ∀ b ∈ l, b < 256) (hm : ∀ b ∈ m, b < 256) (hx : x < 256) (hy : y < 256) (h : x ≠ y) :
    crc (l ++ x :: m) ≠ crc (l ++ y :: m) := by
  intro e
  have e1 : fold 4294967295 (l ++ x :: m) = fold 4294967295 (l ++ y :: m) := by
    have := congrArg (4294967295 ^^^ ·) e
    simpa [crc, ← Nat.xor_assoc] using this
  simp only [fold, List.foldl_append, List.foldl_cons] at e1
  have hF := fold_lt (c := 4294967295) l (by omega) hl
  exact fold_inj hm (bst_lt hF hx) (bst_lt hF hy) (bst_inj_r hx hy h) e1
theorem crc_digits : crc [49, 50, 51, 52, 53, 54, 55, 56, 57] = 3808858755 := by decide +kernel
end Go.Proofs.YtmmkbaaodebafaaDoor.Jr
