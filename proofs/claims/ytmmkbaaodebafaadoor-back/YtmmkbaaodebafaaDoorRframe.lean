import Derived.Test.YtmmkbaaodebafaaDoorPframe
import Derived.Test.YtmmkbaaodebafaaDoorSumC
namespace Go.Proofs.YtmmkbaaodebafaaDoor
open Go.RowKit Jr

set_option maxHeartbeats 1000000 in
theorem rmay (v p : Int) (st d : ByteArray) (w : World) (hst : st.size ≤ maxLen) (hd : d.size ≤ maxLen) :
    Calls Tryd.prog 10 #[.agg (pev st v p d)] w fun e w' => e = .returned (.int .i64 (may st d v p : Nat)) ∧ w' = w.alloc (.cells (pev st v p d) 30) := by
  unfold maxLen at hst hd
  rcases may_cases st d v p with ⟨h1, h⟩ | ⟨h1, h2, h⟩ | ⟨h1, h2, h3, h⟩ | ⟨h1, h2, h3, h4, h⟩ | ⟨h1, h2, h3, h4, h5, h⟩ | ⟨h1, h2, h3, h4, h5, h⟩
  all_goals
    rw [h]
    clear h
  · go_enter Tryd.func10, Tryd.ntmps10
    go_wp2
    go_ret
    exact ⟨rfl, rfl⟩
  all_goals
    have h1' : ((st.size : Int) == 0) = false := by rw [beq_eq_false_iff_ne]; omega
    go_enter Tryd.func10, Tryd.ntmps10
    go_wp2
    go_ret
    exact ⟨rfl, rfl⟩

set_option maxHeartbeats 4000000 in
theorem rframe (v p : Nat) (st d : ByteArray) (w : World) (hm : may st d v p = 0) (hv : v < 9223372036854775808) (hp : p < 9223372036854775808) :
    Calls Tryd.prog 11 #[.agg (pev st v p d)] w fun e w' => ∃ g cap, e = .returned (.slice (some ⟨g, 0, none⟩) (25 + st.size + d.size) cap) ∧ Own w' w.heap.size g cap (frL st d v p) ∧ Below w.heap.size w w' := by
  obtain ⟨m0, m1, m2, m3, m4⟩ := may_zero hm
  clear hm
  have ws : IntKind.u8.wrap (st.size : Int) = (st.size : Nat) := by rw [IntKind.wrap_u8']; omega
  have wv : IntKind.u64.wrap (v : Int) = (v : Nat) := by rw [IntKind.wrap_u64]; omega
  have wp : IntKind.u64.wrap (p : Int) = (p : Nat) := by rw [IntKind.wrap_u64]; omega
  have hb1 : Below w.heap.size w (w.alloc (.cells (pev st v p d) 30)) := (Below.refl _ _).alloc (Nat.le_refl _) _
  have hb2 : Below (w.heap.size + 1) (w.alloc (.cells (pev st v p d) 30)) ((w.alloc (.cells (pev st v p d) 30)).alloc (.cells #[.int .u8 (st.size : Nat)] 5)) := (Below.refl _ _).alloc (by simp) _
  have hx2 := (pbox_alloc w v p st d 30).on hb2 (by omega)
  have ho2 := own_one (w.alloc (.cells (pev st v p d) 30)) st.size
  rw [World.size_alloc] at ho2
  have hB2 := hb1.trans (hb2.mono (by omega))
  have hz2 : w.heap.size + 2 ≤ ((w.alloc (.cells (pev st v p d) 30)).alloc (.cells #[.int .u8 (st.size : Nat)] 5)).heap.size := by simp
  clear hb1 hb2
  go_enter Tryd.func11, Tryd.ntmps11
  go_upto_region 2 with fail
  obtain ⟨W2, hW2⟩ : ∃ W2, W2 = (w.alloc (.cells (pev st v p d) 30)).alloc (.cells #[.int .u8 (st.size : Nat)] 5) := ⟨_, rfl⟩
  rw [← hW2] at hx2 ho2 hB2 hz2 ⊢
  clear hW2 ws
  -- the name
  obtain ⟨g3, c3, W3, HR, HO3, HB3⟩ := app_own' (n := 1) (m := st.size) (k := 1 + st.size) ho2 rfl (bs_length st) rfl (by omega) (src_str W2 st) (by omega)
  have HX3 : Hid (PBox W3 w.heap.size v p st d) := hx2.on HB3.out (by omega)
  have HW3 : Hid (Below w.heap.size w W3) := hB2.trans (HB3.out.mono (by omega))
  have hz3 : w.heap.size + 2 ≤ W3.heap.size := Nat.le_trans hz2 HB3.out.size
  obtain ⟨y0, -, -, -⟩ := hx2
  clear HB3 ho2 hB2
  go_upto_region 3 with (at_builtin; refine wpList_app rfl _ _ _ _ rfl rfl rfl HR.out ?_)
  clear y0 HR hz2
  -- the version
  obtain ⟨-, y1, -, -⟩ := HX3.out
  go_upto_region 4 with (go_at_call 20; refine (rnumber8 v W3 (by omega)).mono ?_; rintro e W4 ⟨g4, c4, rfl, ho4, hb4⟩)
  have HX4 : Hid (PBox W4 w.heap.size v p st d) := HX3.out.on hb4 (by omega)
  have HP4 : Hid (Own W4 (w.heap.size + 1) g3 c3 ([st.size] ++ bs st)) := HO3.out.on hb4 HO3.out.lt
  have HW4 : Hid (Below w.heap.size w W4) := HW3.out.trans (hb4.mono (by omega))
  have hz4 : w.heap.size + 2 ≤ W4.heap.size := Nat.le_trans hz3 hb4.size
  have hsrc := src_own ho4
  rw [digs_length] at hsrc
  obtain ⟨g5, c5, W5, HR, HO5, HB5⟩ := app_own' (n := 1 + st.size) (m := 8) (k := 1 + st.size + 8) HP4.out (by simp [bs_length]; omega) (digs_length v 8) rfl (by omega) (by rw [digs_length]; exact hsrc) (by omega)
  clear y1 hb4 HX3 HO3 HW3 hz3 hsrc ho4
  go_upto_region 5 with (at_builtin; refine wpList_app rfl _ _ _ _ rfl rfl rfl HR.out ?_)
  have HX5 : Hid (PBox W5 w.heap.size v p st d) := HX4.out.on HB5.out (by omega)
  have HW5 : Hid (Below w.heap.size w W5) := HW4.out.trans (HB5.out.mono (by omega))
  have hz5 : w.heap.size + 2 ≤ W5.heap.size := Nat.le_trans hz4 HB5.out.size
  clear HR HX4 HP4 HW4 hz4 HB5
  -- the position
  obtain ⟨-, -, y2, -⟩ := HX5.out
  go_upto_region 6 with (go_at_call 20; refine (rnumber8 p W5 (by omega)).mono ?_; rintro e W6 ⟨g6, c6, rfl, ho6, hb6⟩)
  have HX6 : Hid (PBox W6 w.heap.size v p st d) := HX5.out.on hb6 (by omega)
  have HP6 : Hid (Own W6 (w.heap.size + 1) g5 c5 ([st.size] ++ bs st ++ digs v 8)) := HO5.out.on hb6 HO5.out.lt
  have HW6 : Hid (Below w.heap.size w W6) := HW5.out.trans (hb6.mono (by omega))
  have hz6 : w.heap.size + 2 ≤ W6.heap.size := Nat.le_trans hz5 hb6.size
  have hsrc := src_own ho6
  rw [digs_length] at hsrc
  obtain ⟨g7, c7, W7, HR, HO7, HB7⟩ := app_own' (n := 1 + st.size + 8) (m := 8) (k := 1 + st.size + 8 + 8) HP6.out (by simp [bs_length, digs_length]; omega) (digs_length p 8) rfl (by omega) (by rw [digs_length]; exact hsrc) (by omega)
  clear y2 hb6 HX5 HO5 HW5 hz5 hsrc ho6
  go_upto_region 7 with (at_builtin; refine wpList_app rfl _ _ _ _ rfl rfl rfl HR.out ?_)
  have HX7 : Hid (PBox W7 w.heap.size v p st d) := HX6.out.on HB7.out (by omega)
  have HW7 : Hid (Below w.heap.size w W7) := HW6.out.trans (HB7.out.mono (by omega))
  have hz7 : w.heap.size + 2 ≤ W7.heap.size := Nat.le_trans hz6 HB7.out.size
  clear HR HX6 HP6 HW6 hz6 HB7
  -- the data
  obtain ⟨L, hL⟩ : ∃ L, 17 + st.size + d.size = L := ⟨_, rfl⟩
  have hL2 : L ≤ 53 := by omega
  obtain ⟨-, -, -, y3⟩ := HX7.out
  obtain ⟨g8, c8, W8, HR, HO8, HB8⟩ := app_own' (n := 1 + st.size + 8 + 8) (m := d.size) (k := L) HO7.out (by simp [bs_length, digs_length]; omega) (bs_length d) (by omega) (by omega) (src_str W7 d) (by omega)
  have HL : Hid (17 + st.size + d.size = L) := hL
  clear hL
  go_upto_region 8 with (at_builtin; refine wpList_app rfl _ _ _ _ rfl rfl rfl HR.out ?_)
  have HP8 : Hid (Own W8 (w.heap.size + 1) g8 c8 (payL st d v p)) := HO8.out
  have HW8 : Hid (Below w.heap.size w W8) := HW7.out.trans (HB8.out.mono (by omega))
  have hz8 : w.heap.size + 2 ≤ W8.heap.size := Nat.le_trans hz7 HB8.out.size
  clear HR HX7 HO7 HW7 hz7 HB8 HO8 y3
  -- the length
  have wL : IntKind.u64.wrap (L : Int) = (L : Nat) := by rw [IntKind.wrap_u64]; omega
  go_upto_region 9 with (go_at_call 20; refine (rnumber4 L W8 (by omega)).mono ?_; rintro e W9 ⟨g9, c9, rfl, ho9, hb9⟩)
  have HP9 : Hid (Own W9 (w.heap.size + 1) g8 c8 (payL st d v p)) := HP8.out.on hb9 HP8.out.lt
  have HO9 : Hid (Own W9 W8.heap.size g9 c9 (digs L 4)) := ho9
  have HW9 : Hid (Below w.heap.size w W9) := HW8.out.trans (hb9.mono (by omega))
  have hz9 : W8.heap.size ≤ W9.heap.size := hb9.size
  have hg8 : g8 < W8.heap.size := HP8.out.lt
  clear ho9 hb9 HP8 HW8 wL
  -- the check
  have hcl : crc (payL st d v p) < 4294967296 := crc_lt _ (payL_lt st d v p m1)
  obtain ⟨C, hC⟩ : ∃ C, crc (payL st d v p) = C := ⟨_, rfl⟩
  rw [hC] at hcl
  have HC : Hid (crc (payL st d v p) = C) := hC
  clear hC
  have wC : IntKind.u64.wrap (C : Int) = (C : Nat) := by rw [IntKind.wrap_u64]; omega
  go_upto_region 10 with (go_at_call 21; refine (rsum_cells g8 0 L c8 (payL st d v p) W9 (by rw [payL_length]; exact HL.out) (by unfold maxLen; omega) (payL_lt st d v p m1) (fun i hi => by rw [Nat.zero_add]; exact HP9.out.cell i (by rw [payL_length, HL.out]; exact hi))).mono ?_; rw [HC.out]; rintro e w' ⟨rfl, hw⟩; rw [hw]; clear hw)
  go_upto_region 11 with (go_at_call 20; refine (rnumber4 C W9 (by omega)).mono ?_; rintro e W10 ⟨g10, c10, rfl, ho10, hb10⟩)
  have HP10 : Hid (Own W10 (w.heap.size + 1) g8 c8 (payL st d v p)) := HP9.out.on hb10 HP9.out.lt
  have HO10 : Hid (Own W10 W8.heap.size g9 c9 (digs L 4)) := HO9.out.on hb10 HO9.out.lt
  have HW10 : Hid (Below w.heap.size w W10) := HW9.out.trans (hb10.mono (by omega))
  have hz10 : W8.heap.size ≤ W10.heap.size := Nat.le_trans hz9 hb10.size
  have hsrc := src_own ho10
  rw [digs_length] at hsrc
  obtain ⟨g11, c11, W11, HR, HO11, HB11⟩ := app_own' (n := 4) (m := 4) (k := 8) HO10.out (digs_length L 4) (digs_length C 4) rfl (by omega) (by rw [digs_length]; exact hsrc) (by omega)
  clear ho10 hb10 HP9 HO9 HW9 hz9 hsrc
  go_upto_region 12 with (at_builtin; refine wpList_app rfl _ _ _ _ rfl rfl rfl HR.out ?_)
  have HP11 : Hid (Own W11 (w.heap.size + 1) g8 c8 (payL st d v p)) := HP10.out.on HB11.out hg8
  have HW11 : Hid (Below w.heap.size w W11) := HW10.out.trans (HB11.out.mono (by omega))
  have hz11 : W8.heap.size ≤ W11.heap.size := Nat.le_trans hz10 HB11.out.size
  have hlp : (payL st d v p).length = L := by rw [payL_length]; exact HL.out
  have hsrc := src_own HP11.out
  clear HR
  obtain ⟨g12, c12, W12, HR, HO12, HB12⟩ := app_own' (n := 8) (m := L) (k := 8 + L) HO11.out (by simp [digs_length]) hlp rfl (by omega) hsrc (by omega)
  rw [hlp] at HR
  clear hsrc hlp
  go_wp2_with (at_builtin; refine wpList_app rfl _ _ _ _ rfl rfl rfl HR.out ?_)
  go_ret
  refine ⟨g12, c12, by rw [show 25 + st.size + d.size = 8 + L by have := HL.out; omega]; rfl, ?_, HW11.out.trans (HB12.out.mono (by omega))⟩
  have h := HO12.out.mono (B' := w.heap.size) (by omega)
  rw [← HL.out, ← HC.out] at h
  exact h
end Go.Proofs.YtmmkbaaodebafaaDoor
