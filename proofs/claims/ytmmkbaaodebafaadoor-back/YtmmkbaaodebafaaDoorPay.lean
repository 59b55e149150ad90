import Derived.Test.YtmmkbaaodebafaaDoorEvErr
import Derived.Test.YtmmkbaaodebafaaDoorAppNum
import Derived.Deep.Cut
namespace Go.Proofs.YtmmkbaaodebafaaDoor
open Go.RowKit Jr

/-- An event in memory. -/
def Box (W : World) (b : Nat) (v p : Int) (st d : ByteArray) : Prop :=
  W.cell? ⟨b, 0, none⟩ = some (.int .i64 v) ∧ W.cell? ⟨b, 1, none⟩ = some (.int .i64 p) ∧ W.cell? ⟨b, 2, none⟩ = some (.string st) ∧ W.cell? ⟨b, 3, none⟩ = some (.string d)
theorem Box.on {W W' : World} {b : Nat} {v p : Int} {st d : ByteArray} (h : Box W b v p st d) {B : Nat} (hb : Below B W W') (hB : b < B) : Box W' b v p st d :=
  ⟨(hb.cell hB).trans h.1, (hb.cell hB).trans h.2.1, (hb.cell hB).trans h.2.2.1, (hb.cell hB).trans h.2.2.2⟩
theorem box_alloc (w : World) (v p : Int) (st d : ByteArray) (t : TypeId) : Box (w.alloc (.cells (ev v p st d) t)) w.heap.size v p st d := by
  refine ⟨?_, ?_, ?_, ?_⟩ <;> simp [World.cell?_alloc_at]

/-- The payload of an event. -/
def payL (st d : ByteArray) (v p : Nat) : List Nat := [st.size] ++ bs st ++ digs v 8 ++ digs p 8 ++ bs d
theorem payL_length (st d : ByteArray) (v p : Nat) : (payL st d v p).length = 17 + st.size + d.size := by
  simp only [payL, List.length_append, bs_length, digs_length, List.length_cons, List.length_nil]; omega

theorem mk0 (w : World) (n : Nat) (hn : n ≤ 100000) : (Instr.makeSlice 23 (.int .i64 0) (.int .i64 n)).run Tryd.prog w = .ok (.slice (some ⟨w.heap.size, 0, none⟩) 0 n) (w.alloc (.cells (madeCells #[.int .u8 0] n) 5)) := by
  obtain ⟨i0, h1, h2, h3, h4⟩ := infoU8
  have := run_make (P := Tryd.prog) w 23 5 i0 (.int .u8 0) Tryd.underlying23 h1 h2 .i64 .i64 0 n (by omega) (by omega) (by rw [h4]; omega) (by omega)
  rw [h3, Nat.mul_one] at this
  exact this
theorem own_made (w : World) (n : Nat) : Own (w.alloc (.cells (madeCells #[.int .u8 0] n) 5)) w.heap.size w.heap.size n [] :=
  own_alloc w [] _ n (0, 0) (Or.inl rfl) (Nat.zero_le _) (size_madeCells _ _) (fun i hi => by simp at hi)

set_option maxHeartbeats 2000000 in
theorem jpayload (v p : Nat) (st d : ByteArray) (w : World) (hv : v < 9223372036854775808) (hp : p < 9223372036854775808) (hst : st.size ≤ 12) (hd : d.size ≤ 24) :
    Calls Tryd.prog 35 #[.agg (ev v p st d)] w fun e w' =>
      ∃ g cap, e = .returned (.slice (some ⟨g, 0, none⟩) (17 + st.size + d.size) cap) ∧ Own w' w.heap.size g cap (payL st d v p) ∧ Below w.heap.size w w' := by
  have kmk : ∀ w : World, (Instr.makeSlice 23 (.int .i64 0) (.int .i64 53)).run Tryd.prog w = .ok (.slice (some ⟨w.heap.size, 0, none⟩) 0 53) (w.alloc (.cells (madeCells #[.int .u8 0] 53) 5)) := fun w => mk0 w 53 (by omega)
  have ws : IntKind.u8.wrap (st.size : Int) = (st.size : Nat) := by rw [IntKind.wrap_u8']; omega
  have wv : IntKind.u64.wrap (v : Int) = (v : Nat) := by rw [IntKind.wrap_u64]; omega
  have wp : IntKind.u64.wrap (p : Int) = (p : Nat) := by rw [IntKind.wrap_u64]; omega
  have hB1 : Below w.heap.size w (w.alloc (.cells (ev v p st d) 56)) := (Below.refl _ _).alloc (Nat.le_refl _) _
  have hb2 : Below (w.heap.size + 1) (w.alloc (.cells (ev v p st d) 56)) ((w.alloc (.cells (ev v p st d) 56)).alloc (.cells (madeCells #[.int .u8 0] 53) 5)) := (Below.refl _ _).alloc (by simp) _
  have hx2 := (box_alloc w v p st d 56).on hb2 (by omega)
  have ho2 := own_made (w.alloc (.cells (ev v p st d) 56)) 53
  rw [World.size_alloc] at ho2
  have hB2 := hB1.trans (hb2.mono (by omega))
  have hz2 : w.heap.size + 2 ≤ ((w.alloc (.cells (ev v p st d) 56)).alloc (.cells (madeCells #[.int .u8 0] 53) 5)).heap.size := by simp
  clear hB1 hb2
  go_enter Tryd.func35, Tryd.ntmps35
  go_upto_region 2 with fail
  obtain ⟨W2, hW2⟩ : ∃ W2, W2 = (w.alloc (.cells (ev v p st d) 56)).alloc (.cells (madeCells #[.int .u8 0] 53) 5) := ⟨_, rfl⟩
  rw [← hW2] at hx2 ho2 hB2 hz2 ⊢
  clear hW2
  -- the name's length
  have hb3 : Below (w.heap.size + 1) W2 (W2.alloc (.cells #[.int .u8 (st.size : Nat)] 5)) := (Below.refl _ _).alloc (by omega) _
  obtain ⟨g3, c3, W3, HR, HO3, HB3⟩ := app_own' (n := 0) (m := 1) (k := 1) (ho2.on ((Below.refl _ _).alloc (Nat.le_refl _) (.cells #[.int .u8 (st.size : Nat)] 5)) ho2.lt) rfl rfl rfl (by simp; omega) (l' := [st.size]) (src_one W2 st.size) (by omega)
  have HX3 : Hid (Box W3 w.heap.size v p st d) := hx2.on (hb3.trans HB3.out) (by omega)
  have HW3 : Hid (Below w.heap.size w W3) := hB2.trans ((hb3.trans HB3.out).mono (by omega))
  have hz3 : w.heap.size + 2 ≤ W3.heap.size := Nat.le_trans hz2 (Nat.le_trans hb3.size HB3.out.size)
  obtain ⟨-, -, y2, -⟩ := hx2
  clear hb3 HB3 ho2 hB2
  go_upto_region 3 with (at_builtin; refine wpList_app rfl _ _ _ _ rfl rfl rfl HR.out ?_)
  clear y2 HR hz2
  -- the name
  obtain ⟨g4, c4, W4, HR, HO4, HB4⟩ := app_own' (n := 1) (m := st.size) (k := 1 + st.size) HO3.out rfl (bs_length st) rfl (by omega) (src_str W3 st) (by omega)
  have HX4 : Hid (Box W4 w.heap.size v p st d) := HX3.out.on HB4.out (by omega)
  have HW4 : Hid (Below w.heap.size w W4) := HW3.out.trans (HB4.out.mono (by omega))
  have hz4 : w.heap.size + 2 ≤ W4.heap.size := Nat.le_trans hz3 HB4.out.size
  obtain ⟨-, -, y2, -⟩ := HX3.out
  clear HX3 HW3 HB4 HO3
  go_upto_region 4 with (at_builtin; refine wpList_app rfl _ _ _ _ rfl rfl rfl HR.out ?_)
  clear y2 HR hz3
  -- the version
  obtain ⟨y0, -, -, -⟩ := HX4.out
  go_upto_region 5 with (go_at_call 36; refine (jappend8 (w.heap.size + 1) g4 c4 (1 + st.size) _ v W4 HO4.out (by simp [bs_length]; omega) (by omega) (by omega) (by omega)).mono ?_; rintro e W5 ⟨g5, c5, rfl, ho5, hb5⟩)
  have HO5 := (show Hid (Own W5 (w.heap.size + 1) g5 c5 ([st.size] ++ bs st ++ digs v 8)) from ho5)
  have HX5 : Hid (Box W5 w.heap.size v p st d) := HX4.out.on hb5 (by omega)
  have HW5 : Hid (Below w.heap.size w W5) := HW4.out.trans (hb5.mono (by omega))
  have hz5 : w.heap.size + 2 ≤ W5.heap.size := Nat.le_trans hz4 hb5.size
  clear y0 ho5 hb5 HX4 HO4 HW4 hz4
  -- the position
  obtain ⟨-, y1, -, -⟩ := HX5.out
  go_upto_region 6 with (go_at_call 36; refine (jappend8 (w.heap.size + 1) g5 c5 (1 + st.size + 8) _ p W5 HO5.out (by simp [bs_length, digs_length]; omega) (by omega) (by omega) (by omega)).mono ?_; rintro e W6 ⟨g6, c6, rfl, ho6, hb6⟩)
  have HO6 := (show Hid (Own W6 (w.heap.size + 1) g6 c6 ([st.size] ++ bs st ++ digs v 8 ++ digs p 8)) from ho6)
  have HX6 : Hid (Box W6 w.heap.size v p st d) := HX5.out.on hb6 (by omega)
  have HW6 : Hid (Below w.heap.size w W6) := HW5.out.trans (hb6.mono (by omega))
  have hz6 : w.heap.size + 2 ≤ W6.heap.size := Nat.le_trans hz5 hb6.size
  clear y1 ho6 hb6 HX5 HO5 HW5 hz5
  -- the data
  obtain ⟨-, -, -, y3⟩ := HX6.out
  obtain ⟨g7, c7, W7, HR, HO7, HB7⟩ := app_own' (n := 1 + st.size + 8 + 8) (m := d.size) (k := 17 + st.size + d.size) HO6.out (by simp [bs_length, digs_length]; omega) (bs_length d) (by omega) (by omega) (src_str W6 d) (by omega)
  go_wp2_with (at_builtin; refine wpList_app rfl _ _ _ _ rfl rfl rfl HR.out ?_)
  go_ret
  exact ⟨g7, c7, rfl, HO7.out.mono (by omega), HW6.out.trans (HB7.out.mono (by omega))⟩
end Go.Proofs.YtmmkbaaodebafaaDoor
