import Derived.Test.YtmmkbaaodebafaaDoorBackW
import Derived.Deep.RegionWith
namespace Go.Proofs.YtmmkbaaodebafaaDoor
open Go.RowKit Jr

/-- A row with one byte turned. -/
theorem own_set {w : World} {B g cap : Nat} {l : List Nat} (h : Own w B g cap l) (i x : Nat) (hi : i < l.length) : Own (w.setCell ⟨g, i, none⟩ (.int .u8 (x : Nat))) B g cap (l.set i x) := by
  refine ⟨h.base, by simpa [World.setCell] using h.lt, by simpa using h.le, fun j hj => ?_, fun j h1 h2 => ?_, fun j hj => by rw [World.frozen?_setCell]; exact h.free j hj⟩
  · simp at hj
    by_cases e : j = i
    · subst e
      rw [World.cell?_setCell_same _ _ _ (h.cell j hj)]; simp [List.getD, hj]
    · rw [World.cell?_setCell_other _ _ _ _ (fun h' => e (by injection h' with _ h2 _; exact h2.symm)), h.cell j hj]
      simp [List.getD, Ne.symm e]
  · simp at h1
    rw [World.cell?_setCell_other _ _ _ _ (fun h' => by injection h' with _ h3 _; omega)]; exact h.rest j h1 h2
theorem Own.drew {w : World} {B g cap : Nat} {l : List Nat} (h : Own w B g cap l) : Own w.drew B g cap l := ⟨h.base, h.lt, h.le, h.cell, h.rest, h.free⟩

/-- plain.Parse of a record of which one byte is another. -/
theorem pparse_turned (a : Nat → Addr) (st d : ByteArray) (v p i x : Nat) (w : World) (hs : Sen 3 w a) (hm : may st d v p = 0) (h4 : 4 ≤ i) (hi : i < 25 + st.size + d.size) (hx : x < 256) (hne : x ≠ (frL st d v p).getD i 0) :
    Calls Tryd.prog 12 #[.string (sOf ((frL st d v p).set i x))] w fun e w' => e = .returned (.tuple #[.agg pz, .int .i64 0, .int .i64 2]) ∧ Below w.heap.size w w' := by
  obtain ⟨m0, m1, m2, _, _⟩ := may_zero hm
  have hlen := frL_length st d v p
  have hl : ((frL st d v p).set i x).length = 25 + st.size + d.size := by rw [List.length_set, hlen]
  have hlt : ∀ y ∈ (frL st d v p).set i x, y < 256 := fun y hy => by
    rcases List.mem_or_eq_of_mem_set hy with h | h
    · exact frL_lt m1 y h
    · rw [h]; exact hx
  have hsz : (sOf ((frL st d v p).set i x)).size = 25 + st.size + d.size := by rw [sOf_sz, hl]
  have h := pparse a (sOf ((frL st d v p).set i x)) w hs (by omega)
  have hb : ∀ j, j < 25 + st.size + d.size → byt (sOf ((frL st d v p).set i x)) j = ((frL st d v p).set i x).getD j 0 := fun j hj => byt_sOf hlt j (by rw [hl]; exact hj)
  have hbi : byt (sOf ((frL st d v p).set i x)) i = x := by rw [hb i hi]; simp [List.getD, hlen, hi]
  rw [hsz, parse_turned hm h4 hi (fun j hj hji => by rw [hb j hj]; simp [List.getD, Ne.symm hji]) (by rw [hbi]; exact hne) (by rw [hbi]; exact hx)] at h
  exact h
/-- What pick picks. -/
def pickN (c : Int) (n : Nat) : Nat := (if c < 0 then (-(c + 1)).toNat else c.toNat) % n
theorem kpickN (c : Int) (n : Nat) (w : World) (h1 : -9223372036854775808 ≤ c) (h2 : c ≤ 9223372036854775807) (hn : 0 < n) (hn2 : n ≤ 100000) :
    Calls Tryd.prog 16 #[.int .i64 c, .int .i64 n] w fun e w' => e = .returned (.int .i64 (pickN c n : Nat)) ∧ w' = w := by
  have hn0 : ((n : Int) == 0) = false := by rw [beq_eq_false_iff_ne]; omega
  by_cases hc : c < 0
  · obtain ⟨m, hm⟩ : ∃ m : Nat, c + 1 = -(m : Int) := ⟨(-(c + 1)).toNat, by omega⟩
    have e : -(c + 1).tmod (n : Int) = (pickN c n : Nat) := by
      unfold pickN; rw [if_pos hc, hm, Int.neg_tmod, Int.neg_neg, Int.ofNat_tmod, Int.neg_neg, Int.toNat_natCast]
    have HE : Hid (-(c + 1).tmod (n : Int) = (pickN c n : Nat)) := e
    clear e hm
    go_enter Tryd.func16, Tryd.ntmps16
    go_wp2
    go_ret
    exact ⟨by show Ending.returned (.int .i64 (-(c + 1).tmod (n : Int))) = _; rw [HE.out], rfl⟩
  · obtain ⟨m, hm⟩ : ∃ m : Nat, c = (m : Int) := ⟨c.toNat, by omega⟩
    have e : c % (n : Int) = (pickN c n : Nat) := by unfold pickN; rw [if_neg hc, hm]; rfl
    have HE : Hid (c % (n : Int) = (pickN c n : Nat)) := e
    clear e hm
    go_enter Tryd.func16, Tryd.ntmps16
    go_wp2
    go_ret
    exact ⟨by show Ending.returned (.int .i64 (c % (n : Int))) = _; rw [HE.out], rfl⟩
theorem kpick255 (c : Int) (w : World) (h1 : -9223372036854775808 ≤ c) (h2 : c ≤ 9223372036854775807) :
    Calls Tryd.prog 16 #[.int .i64 c, .int .i64 255] w fun e w' => e = .returned (.int .i64 (pickN c 255 : Nat)) ∧ w' = w := kpickN c 255 w h1 h2 (by omega) (by omega)
theorem pframe_ok0 (a : Nat → Addr) (v : Nat) (st d : ByteArray) (w : World) (hs : Sen 5 w a) (hm : may st d v 0 = 0) (hv : v < 9223372036854775808) :
    Calls Tryd.prog 9 #[.agg (pev st v 0 d)] w fun e w' => ∃ g cap, e = .returned (.tuple #[.slice (some ⟨g, 0, none⟩) (25 + st.size + d.size) cap, .agg (told 0)]) ∧ Own w' w.heap.size g cap (frL st d v 0) ∧ Below w.heap.size w w' := pframe_ok a v 0 st d w hs hm hv (by omega)
theorem xor_ne_self (x k : Nat) (hk : k ≠ 0) : x ^^^ k ≠ x := fun h => hk (by
  have := congrArg (x ^^^ ·) h
  simpa [← Nat.xor_assoc] using this)

set_option maxRecDepth 10000 in
set_option maxHeartbeats 4000000 in
theorem turned_walk (a : Nat → Addr) (s0 d0 : ByteArray) (v0 at0 by0 : Int) (w : World) (hs : Sen 5 w a) (h1 : s0.size ≤ 9223372036854775807) (h2 : d0.size ≤ 9223372036854775807) (a1 : -9223372036854775808 ≤ at0) (a2 : at0 ≤ 9223372036854775807) (c1 : -9223372036854775808 ≤ by0) (c2 : by0 ≤ 9223372036854775807) :
    Calls Tryd.prog 7 #[.string s0, .int .i64 v0, .string d0, .int .i64 at0, .int .i64 by0] w fun e w' => e = .returned (.bool true) ∧ Below w.heap.size w w' := by
  obtain ⟨m1, b1, e1⟩ := mask62 v0
  obtain ⟨V, hV⟩ : ∃ V : Nat, (m1 : Int) + 1 = V := ⟨m1 + 1, by omega⟩
  have tok1 : True := trivial
  go_enter Tryd.func7, Tryd.ntmps7
  go_upto_region 2 with (first
    | (go_at_call 15; have _t := tok1; clear _t tok1; refine (ktext12 s0 w h1).mono ?_; rintro e w' ⟨ST, s1, s2, rfl, hw⟩; rw [hw]; clear hw)
    | (go_at_call 15; refine (ktext24 d0 w h2).mono ?_; rintro e w' ⟨DD, s3, s4, rfl, hw⟩; rw [hw]; clear hw))
  have hm : may ST DD V 0 = 0 := may_ok s1 s2 s4 (by omega) (by omega)
  have HM : Hid (may ST DD V 0 = 0) := hm
  obtain ⟨L, hL⟩ : ∃ L, 25 + ST.size + DD.size = L := ⟨_, rfl⟩
  have HL : Hid (25 + ST.size + DD.size = L) := hL
  have hL1 : 26 ≤ L := by omega
  have hL2 : L ≤ 61 := by omega
  have vb : V < 9223372036854775808 := by omega
  clear hm hL hV e1
  have X1 := pbox_alloc w V 0 ST DD 29
  have hB1 : Below w.heap.size w (w.alloc (.cells (pev ST V 0 DD) 29)) := (Below.refl _ _).alloc (Nat.le_refl _) _
  have hS1 := hs.on hB1 (Nat.le_refl _)
  have hz1 : w.heap.size < (w.alloc (.cells (pev ST V 0 DD) 29)).heap.size := by simp
  obtain ⟨W1, hW1⟩ : ∃ W1, W1 = w.alloc (.cells (pev ST V 0 DD) 29) := ⟨_, rfl⟩
  rw [← hW1] at X1 hB1 hS1 hz1 ⊢
  clear hW1 hs
  obtain ⟨x0, x1, x2, x3⟩ := X1
  go_upto_region 3 with (go_at_call 9; refine (pframe_ok0 a V ST DD W1 hS1 HM.out vb).mono ?_; rintro e W2 ⟨g, cap, rfl, ho2, hb2⟩; rw [HL.out])
  have hb3 : Below W2.heap.size W2 (W2.alloc (.cells (told 0) 25)) := (Below.refl _ _).alloc (Nat.le_refl _) _
  have hb13 := hb2.trans (hb3.mono hb2.size)
  have O3 : Hid (Own (W2.alloc (.cells (told 0) 25)) W1.heap.size g cap (frL ST DD V 0)) := ho2.on hb3 ho2.lt
  have S1 : Hid (Sen 3 W1 a) := hS1.less (by omega)
  have B13 : Hid (Below W1.heap.size W1 (W2.alloc (.cells (told 0) 25))) := hb13
  have B3 : Hid (Below w.heap.size w (W2.alloc (.cells (told 0) 25))) := hB1.trans (hb13.mono (by omega))
  have t0 : (W2.alloc (.cells (told 0) 25)).cell? ⟨W2.heap.size, 0, none⟩ = some (.int .i64 0) := (five_alloc W2 25).2.1
  obtain ⟨W3, hW3⟩ : ∃ W3, W3 = W2.alloc (.cells (told 0) 25) := ⟨_, rfl⟩
  rw [← hW3] at O3 B13 B3 t0 ⊢
  clear hW3 hb3 hb13 hb2 ho2 hB1 hS1 x0 x1 x2 x3
  obtain ⟨N4, hN4⟩ : ∃ N4 : Nat, (L : Int) - 4 = N4 := ⟨L - 4, by omega⟩
  have hN4' : N4 + 4 = L := by omega
  have hx0 : pickN at0 N4 < N4 := Nat.mod_lt _ (by omega)
  obtain ⟨x, hx⟩ : ∃ x, pickN at0 N4 = x := ⟨_, rfl⟩
  rw [hx] at hx0
  have HX : Hid (pickN at0 N4 = x) := hx
  obtain ⟨I, hI⟩ : ∃ I : Nat, (4 : Int) + x = I := ⟨4 + x, by omega⟩
  have hI4 : 4 ≤ I := by omega
  have hIL : I < L := by omega
  clear hx
  have HN : Hid (N4 + 4 = L) := hN4'
  clear hN4'
  go_upto_region 6 with (go_at_call 16; refine (kpickN at0 N4 W3 a1 a2 (by omega) (by omega)).mono ?_; rw [HX.out]; rintro e w' ⟨rfl, hw⟩; rw [hw]; clear hw)
  have hlen := frL_length ST DD V 0
  rw [HL.out] at hlen
  have cb0 := O3.out.cell I (by omega)
  have fb := O3.out.free I (by have := O3.out.le; omega)
  have hB0 := getD_lt (frL_lt (st := ST) (d := DD) (v := V) (p := 0) s2) I (by omega)
  obtain ⟨B, hB⟩ : ∃ B, (frL ST DD V 0).getD I 0 = B := ⟨_, rfl⟩
  rw [hB] at cb0 hB0
  have HBB : Hid ((frL ST DD V 0).getD I 0 = B) := hB
  have hy0 : pickN by0 255 < 255 := Nat.mod_lt _ (by omega)
  obtain ⟨y, hy⟩ : ∃ y, pickN by0 255 = y := ⟨_, rfl⟩
  rw [hy] at hy0
  have HY : Hid (pickN by0 255 = y) := hy
  obtain ⟨K, hK⟩ : ∃ K : Nat, (1 : Int) + y = K := ⟨1 + y, by omega⟩
  have hK1 : 1 ≤ K := by omega
  have hK2 : K < 256 := by omega
  have wK : IntKind.u8.wrap (K : Int) = K := by rw [IntKind.wrap_u8']; omega
  have wy : IntKind.i64.wrap (1 + (y : Int)) = K := by rw [IntKind.wrap_i64]; omega
  have wKi : IntKind.i64.wrap (K : Int) = K := by rw [IntKind.wrap_i64]; omega
  have xr := u8_xor_nat B K hB0 hK2
  have i1 : (0 : Int) ≤ I := by omega
  have i2 : (I : Int) < L := by omega
  clear hB hy t0 hlen
  go_region_with (go_at_call 16; refine (kpick255 by0 _ c1 c2).mono ?_; rw [HY.out]; rintro e w' ⟨rfl, rfl⟩)
  all_goals
    try rw [xr]
    have O4 : Own (W3.setCell ⟨g, I, none⟩ (.int .u8 ((B ^^^ K : Nat) : Int))).drew W1.heap.size g cap ((frL ST DD V 0).set I (B ^^^ K)) := (own_set O3.out I (B ^^^ K) (by rw [frL_length, HL.out]; exact hIL)).drew
    have B14 : Below W1.heap.size W1 (W3.setCell ⟨g, I, none⟩ (.int .u8 ((B ^^^ K : Nat) : Int))).drew := (B13.out.setCell O3.out.base _).drew
    have B4 : Hid (Below w.heap.size w (W3.setCell ⟨g, I, none⟩ (.int .u8 ((B ^^^ K : Nat) : Int))).drew) := (B3.out.setCell (Nat.le_trans (Nat.le_of_lt hz1) O3.out.base) _).drew
    have S4 := S1.out.on B14 (Nat.le_refl _)
    have kc := conv_own O4 L (by rw [List.length_set, frL_length]; exact HL.out)
    have HP : Hid (Calls Tryd.prog 12 #[.string (sOf ((frL ST DD V 0).set I (B ^^^ K)))] (W3.setCell ⟨g, I, none⟩ (.int .u8 ((B ^^^ K : Nat) : Int))).drew fun e w' => e = .returned (.tuple #[.agg pz, .int .i64 0, .int .i64 2]) ∧ Below (W3.setCell ⟨g, I, none⟩ (.int .u8 ((B ^^^ K : Nat) : Int))).drew.heap.size (W3.setCell ⟨g, I, none⟩ (.int .u8 ((B ^^^ K : Nat) : Int))).drew w') :=
      pparse_turned a ST DD V 0 I (B ^^^ K) _ S4 HM.out hI4 (by rw [HL.out]; exact hIL) (Nat.xor_lt_two_pow (n := 8) hB0 hK2) (by rw [HBB.out]; exact xor_ne_self B K (by omega))
    clear O4 B14 S4 xr wK wy wKi hK hI hN4 cb0 fb
    go_upto_region 8 with (go_at_call 12; refine (HP.out).mono ?_; rintro e W5 ⟨rfl, hb5⟩)
    have B5 : Hid (Below w.heap.size w W5) := B4.out.trans (hb5.mono B4.out.size)
    clear hb5 kc HP
    go_wp2
    go_ret
    exact ⟨rfl, B5.out.alloc B5.out.size _⟩

theorem turned_any (a : Nat → Addr) (s0 : ByteArray) (v0 : Int) (d0 : ByteArray) (at0 by0 : Int) (w : World) (hs : Sen 5 w a) (h1 : s0.size ≤ maxLen) (_ : (Lit.int .i64 v0).wf = true) (h2 : d0.size ≤ maxLen) (ha : (Lit.int .i64 at0).wf = true) (hb : (Lit.int .i64 by0).wf = true) :
    Calls Tryd.prog 7 #[.string s0, .int .i64 v0, .string d0, .int .i64 at0, .int .i64 by0] w fun e w' => e = .returned (.bool true) ∧ Below w.heap.size w w' := by
  have b1 := i64_wf ha
  have b2 := i64_wf hb
  unfold maxLen at h1 h2
  exact turned_walk a s0 d0 v0 at0 by0 w hs (by omega) (by omega) b1.1 b1.2 b2.1 b2.2
end Go.Proofs.YtmmkbaaodebafaaDoor
