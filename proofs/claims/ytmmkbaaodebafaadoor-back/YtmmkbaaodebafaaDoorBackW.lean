import Derived.Test.YtmmkbaaodebafaaDoorBack
import Derived.Test.YtmmkbaaodebafaaDoorFrames
import Derived.Laws.Concat
namespace Go.Proofs.YtmmkbaaodebafaaDoor
open Go.RowKit Jr

theorem Sen.less {n m : Nat} {w : World} {a : Nat → Addr} (h : Sen n w a) (hm : m ≤ n) : Sen m w a := ⟨fun i hi => h.g i (by omega), fun i hi => h.row i (by omega), fun i j hi hj => h.ne i j (by omega) (by omega)⟩

set_option maxRecDepth 10000 in
set_option maxHeartbeats 4000000 in
theorem back_walk (a : Nat → Addr) (s0 d0 bh : ByteArray) (v0 p0 cut : Int) (w : World) (hs : Sen 5 w a) (h1 : s0.size ≤ 9223372036854775807) (h2 : d0.size ≤ 9223372036854775807) (h3 : bh.size ≤ 9223372036854775807) (hc1 : -9223372036854775808 ≤ cut) (hc2 : cut ≤ 9223372036854775807) :
    Calls Tryd.prog 6 #[.string s0, .int .i64 v0, .int .i64 p0, .string d0, .string bh, .int .i64 cut] w fun e w' => e = .returned (.bool true) ∧ Below w.heap.size w w' := by
  obtain ⟨m1, b1, e1⟩ := mask62 v0
  obtain ⟨P, b2, e2⟩ := mask62 p0
  obtain ⟨V, hV⟩ : ∃ V : Nat, (m1 : Int) + 1 = V := ⟨m1 + 1, by omega⟩
  have tok1 : True := trivial
  go_enter Tryd.func6, Tryd.ntmps6
  go_upto_region 2 with (first
    | (go_at_call 15; have _t := tok1; clear _t tok1; refine (ktext12 s0 w h1).mono ?_; rintro e w' ⟨ST, s1, s2, rfl, hw⟩; rw [hw]; clear hw)
    | (go_at_call 15; refine (ktext24 d0 w h2).mono ?_; rintro e w' ⟨DD, s3, s4, rfl, hw⟩; rw [hw]; clear hw))
  have hm : may ST DD V P = 0 := may_ok s1 s2 s4 (by omega) (by omega)
  have HM : Hid (may ST DD V P = 0) := hm
  obtain ⟨L, hL⟩ : ∃ L, 25 + ST.size + DD.size = L := ⟨_, rfl⟩
  have HL : Hid (25 + ST.size + DD.size = L) := hL
  have hL1 : 26 ≤ L := by omega
  have hL2 : L ≤ 61 := by omega
  have vb : V < 9223372036854775808 := by omega
  have pb : P < 9223372036854775808 := by omega
  clear hm hL hV e1 e2
  have X1 : Hid (PBox (w.alloc (.cells (pev ST V P DD) 29)) w.heap.size V P ST DD) := pbox_alloc w V P ST DD _
  have hB1 : Below w.heap.size w (w.alloc (.cells (pev ST V P DD) 29)) := (Below.refl _ _).alloc (Nat.le_refl _) _
  have hS1 := hs.on hB1 (Nat.le_refl _)
  have hz1 : w.heap.size < (w.alloc (.cells (pev ST V P DD) 29)).heap.size := by simp
  obtain ⟨W1, hW1⟩ : ∃ W1, W1 = w.alloc (.cells (pev ST V P DD) 29) := ⟨_, rfl⟩
  rw [← hW1] at X1 hB1 hS1 hz1 ⊢
  clear hW1 hs
  obtain ⟨x0, x1, x2, x3⟩ := X1.out
  go_upto_region 3 with (go_at_call 9; refine (pframe_ok a V P ST DD W1 hS1 HM.out vb pb).mono ?_; rintro e W2 ⟨g, cap, rfl, ho2, hb2⟩; rw [HL.out])
  have hb3 : Below W2.heap.size W2 (W2.alloc (.cells (told 0) 25)) := (Below.refl _ _).alloc (Nat.le_refl _) _
  have hb13 := hb2.trans (hb3.mono hb2.size)
  have X3 : Hid (PBox (W2.alloc (.cells (told 0) 25)) w.heap.size V P ST DD) := X1.out.on hb13 hz1
  have O3 : Hid (Own (W2.alloc (.cells (told 0) 25)) W1.heap.size g cap (frL ST DD V P)) := ho2.on hb3 ho2.lt
  have S3 : Hid (Sen 3 (W2.alloc (.cells (told 0) 25)) a) := (hS1.on hb13 (Nat.le_refl _)).less (by omega)
  have B3 : Hid (Below w.heap.size w (W2.alloc (.cells (told 0) 25))) := hB1.trans (hb13.mono (by omega))
  have t0 : (W2.alloc (.cells (told 0) 25)).cell? ⟨W2.heap.size, 0, none⟩ = some (.int .i64 0) := (five_alloc W2 25).2.1
  have hz3 : W1.heap.size < (W2.alloc (.cells (told 0) 25)).heap.size := by have := hb2.size; simp; omega
  obtain ⟨W3, hW3⟩ : ∃ W3, W3 = W2.alloc (.cells (told 0) 25) := ⟨_, rfl⟩
  rw [← hW3] at X3 O3 S3 B3 t0 hz3 ⊢
  clear hW3 hb3 hb13 hb2 ho2 X1 hB1 hS1 x0 x1 x2 x3
  have hL0 : ((L : Int) == 0) = false := by rw [beq_eq_false_iff_ne]; omega
  have hL3 : decide (0 < L) = true := by simp; omega
  by_cases hbig : (1048576 : Int) < bh.size
  · go_wp2
    go_ret
    exact ⟨rfl, B3.out⟩
  · have kc := conv_own O3.out L (by rw [frL_length]; exact HL.out)
    have hsz : (sOf (frL ST DD V P)).size = L := by rw [sOf_sz, frL_length]; exact HL.out
    have ka := fun w : World => run_string_add_sum (P := Tryd.prog) w (sOf (frL ST DD V P)) bh (by omega)
    obtain ⟨F, hF⟩ : ∃ F, sOf (frL ST DD V P) = F := ⟨_, rfl⟩
    have HF : Hid (sOf (frL ST DD V P) = F) := hF
    rw [hF] at kc hsz ka
    clear hF
    have HP : Hid (Calls Tryd.prog 12 #[.string (F ++ bh)] W3 fun e w' => e = .returned (.tuple #[.agg (pev ST V P DD), .int .i64 L, .int .i64 0]) ∧ Below W3.heap.size W3 w') := by
      rw [← HF.out]; exact pparse_whole a ST DD bh V P L W3 S3.out HM.out vb pb HL.out (by omega)
    go_upto_region 6 with (go_at_call 12; refine (HP.out).mono ?_; rintro e W4 ⟨rfl, hb4⟩)
    have hb5 : Below W4.heap.size W4 (W4.alloc (.cells (pev ST V P DD) 29)) := (Below.refl _ _).alloc (Nat.le_refl _) _
    have hb35 := hb4.trans (hb5.mono hb4.size)
    have X5 := X3.out.on hb35 (by omega)
    have Y5 := pbox_alloc W4 V P ST DD 29
    have O5 : Hid (Own (W4.alloc (.cells (pev ST V P DD) 29)) W1.heap.size g cap (frL ST DD V P)) := O3.out.on hb35 O3.out.lt
    have S5 : Hid (Sen 3 (W4.alloc (.cells (pev ST V P DD) 29)) a) := S3.out.on hb35 (Nat.le_refl _)
    have B5 : Hid (Below w.heap.size w (W4.alloc (.cells (pev ST V P DD) 29))) := B3.out.trans (hb35.mono (by omega))
    obtain ⟨W5, hW5⟩ : ∃ W5, W5 = W4.alloc (.cells (pev ST V P DD) 29) := ⟨_, rfl⟩
    rw [← hW5] at X5 Y5 O5 S5 B5 ⊢
    clear hW5 hb5 hb35 hb4 X3 O3 S3 B3 t0 HP ka kc hsz HF hz3
    obtain ⟨x0, x1, x2, x3⟩ := X5
    obtain ⟨y0, y1, y2, y3⟩ := Y5
    go_upto_region 8 with fail
    clear x0 x1 x2 x3 y0 y1 y2 y3
    have hcap : L ≤ cap := by have := O5.out.le; rw [frL_length, HL.out] at this; exact this
    have n0 : ¬ cap = 0 := by omega
    have KX : Hid (∀ x, x < L → (convert 23 9 (.slice (some ⟨g, 0, none⟩) x cap)).run Tryd.prog W5 = .ok (.string (sOf ((frL ST DD V P).take x))) W5) := fun x hx =>
      conv_cells W5 g 0 x cap _ (by rw [List.length_take, frL_length, HL.out]; omega) (fun i hi => by
        rw [Nat.zero_add, O5.out.cell i (by rw [frL_length, HL.out]; omega)]; simp [List.getD, hi])
    have PX : Hid (∀ x, x < L → Calls Tryd.prog 12 #[.string (sOf ((frL ST DD V P).take x))] W5 fun e w' => e = .returned (.tuple #[.agg pz, .int .i64 0, .int .i64 1]) ∧ Below W5.heap.size W5 w') := fun x hx => pparse_part a ST DD V P x W5 S5.out HM.out (by rw [HL.out]; exact hx)
    go_wp2_with fail
    go_at_call 16
    refine (kpick cut L W5 hc1 hc2 (by omega) (by omega)).mono ?_
    rintro e w' ⟨x, hx, rfl, hw⟩
    rw [hw]
    clear hw
    have lx : (x : Int) ≤ cap := by omega
    have kx := KX.out x hx
    go_wp2_with fail
    go_at_call 12
    refine (PX.out x hx).mono ?_
    rintro e W6 ⟨rfl, hb6⟩
    have B6 : Hid (Below w.heap.size w W6) := B5.out.trans (hb6.mono B5.out.size)
    clear hb6 kx
    go_wp2
    go_ret
    exact ⟨rfl, B6.out.alloc B6.out.size _⟩

theorem back_any (a : Nat → Addr) (s0 : ByteArray) (v0 p0 : Int) (d0 bh : ByteArray) (cut : Int) (w : World) (hs : Sen 5 w a) (h1 : s0.size ≤ maxLen) (_ : (Lit.int .i64 v0).wf = true) (_ : (Lit.int .i64 p0).wf = true) (h2 : d0.size ≤ maxLen) (h3 : bh.size ≤ maxLen) (hc : (Lit.int .i64 cut).wf = true) :
    Calls Tryd.prog 6 #[.string s0, .int .i64 v0, .int .i64 p0, .string d0, .string bh, .int .i64 cut] w fun e w' => e = .returned (.bool true) ∧ Below w.heap.size w w' := by
  have b := i64_wf hc
  unfold maxLen at h1 h2 h3
  exact back_walk a s0 d0 bh v0 p0 cut w hs (by omega) (by omega) (by omega) b.1 b.2
end Go.Proofs.YtmmkbaaodebafaaDoor
