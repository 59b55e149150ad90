import Derived.Test.YtmmkbaaodebafaaDoorPay
import Derived.Test.YtmmkbaaodebafaaDoorSumC
namespace Go.Proofs.YtmmkbaaodebafaaDoor
open Go.RowKit Jr

theorem payL_lt (st d : ByteArray) (v p : Nat) (hst : st.size ≤ 12) : ∀ x ∈ payL st d v p, x < 256 := by
  intro x hx
  simp only [payL, List.mem_append, List.mem_singleton] at hx
  rcases hx with (((rfl | h) | h) | h) | h
  · omega
  · exact bs_lt _ _ h
  · exact digs_lt _ _ _ h
  · exact digs_lt _ _ _ h
  · exact bs_lt _ _ h
/-- The record of an event. -/
def frL (st d : ByteArray) (v p : Nat) : List Nat := digs (17 + st.size + d.size) 4 ++ digs (crc (payL st d v p)) 4 ++ payL st d v p
theorem frL_length (st d : ByteArray) (v p : Nat) : (frL st d v p).length = 25 + st.size + d.size := by
  simp only [frL, List.length_append, digs_length, payL_length]; omega

set_option maxHeartbeats 2000000 in
theorem jframe_err (a : Nat → Addr) (v p : Int) (st d : ByteArray) (w : World) (hs : Sen 3 w a) (hst : st.size ≤ maxLen) (hd : d.size ≤ maxLen) (x : Nat) (hm : may st d v p = x + 1) (hx : x < 3) :
    Calls Tryd.prog 18 #[.agg (ev v p st d)] w fun e w' => e = .returned (.tuple #[.slice none 0 0, errv a (x + 1)]) ∧ Below w.heap.size w w' := by
  have hb1 : Below w.heap.size w (w.alloc (.cells (ev v p st d) 56)) := (Below.refl _ _).alloc (Nat.le_refl _) _
  have hs1 := hs.on hb1 (Nat.le_refl _)
  have HS : Hid (Sen 3 (w.alloc (.cells (ev v p st d) 56)) a) := hs1
  have HM : Hid (may st d v p = x + 1) := hm
  clear hs hs1 hm
  obtain ⟨y, hy⟩ : ∃ y, errv a (x + 1) = .iface 114 (.pointer (some y)) := by
    match x, hx with
    | 0, _ => exact ⟨_, rfl⟩
    | 1, _ => exact ⟨_, rfl⟩
    | 2, _ => exact ⟨_, rfl⟩
  go_enter Tryd.func18, Tryd.ntmps18
  go_upto_region 2 with (go_at_call 27; refine (jeventError a v p st d _ HS.out hst hd).mono ?_; rintro e w' ⟨rfl, rfl⟩)
  rw [HM.out, hy]
  go_wp2
  go_ret2
  exact ⟨by rw [hy]; rfl, hb1.alloc (by simp) _⟩

set_option maxHeartbeats 2000000 in
theorem jrecord_nil (v p : Nat) (st d : ByteArray) (w : World) (hm : may st d v p = 0) (hv : v < 9223372036854775808) (hp : p < 9223372036854775808) :
    Calls Tryd.prog 28 #[.slice none 0 0, .agg (ev v p st d)] w fun e w' => ∃ g cap, e = .returned (.slice (some ⟨g, 0, none⟩) (25 + st.size + d.size) cap) ∧ Own w' w.heap.size g cap (frL st d v p) ∧ Below w.heap.size w w' := by
  obtain ⟨m0, m1, m2, m3, m4⟩ := may_zero hm
  have HB2 : Hid (Below w.heap.size w (w.alloc (.cells (ev v p st d) 56))) := (Below.refl _ _).alloc (Nat.le_refl _) _
  have HX2 : Hid (Box (w.alloc (.cells (ev v p st d) 56)) w.heap.size v p st d) := box_alloc w v p st d 56
  have hz2 : w.heap.size + 1 ≤ (w.alloc (.cells (ev v p st d) 56)).heap.size := by simp
  clear hm
  go_enter Tryd.func28, Tryd.ntmps28
  go_upto_region 1 with fail
  obtain ⟨W2, hW2⟩ : ∃ W2, W2 = w.alloc (.cells (ev v p st d) 56) := ⟨_, rfl⟩
  rw [← hW2] at HB2 HX2 hz2 ⊢
  clear hW2
  obtain ⟨L, hL⟩ : ∃ L, 17 + st.size + d.size = L := ⟨_, rfl⟩
  have hL2 : L ≤ 53 := by omega
  obtain ⟨y0, y1, y2, y3⟩ := HX2.out
  have HL : Hid (17 + st.size + d.size = L) := hL
  clear hL
  go_upto_region 2 with (go_at_call 35; refine (jpayload v p st d W2 hv hp m1 m2).mono ?_; rintro e W3 ⟨gp, cp, rfl, hop, hbp⟩; rw [HL.out])
  have HP3 : Hid (Own W3 W2.heap.size gp cp (payL st d v p)) := hop
  have HW3 : Hid (Below w.heap.size w W3) := HB2.out.trans (hbp.mono (by omega))
  have hz3 : w.heap.size + 1 ≤ W3.heap.size := Nat.le_trans hz2 hbp.size
  have hgp : gp < W3.heap.size := hop.lt
  clear hop hbp y0 y1 y2 y3 HX2 HB2
  have wL : IntKind.u64.wrap (L : Int) = (L : Nat) := by rw [IntKind.wrap_u64]; omega
  go_upto_region 3 with (go_at_call 36; refine (jappendN4 L W3 (by omega)).mono ?_; rintro e W5 ⟨g5, c5, rfl, ho5, hb5⟩)
  have HO5 := (show Hid (Own W5 W3.heap.size g5 c5 (digs L 4)) from ho5)
  have HP5 : Hid (Own W5 W2.heap.size gp cp (payL st d v p)) := HP3.out.on hb5 hgp
  have HW5 : Hid (Below w.heap.size w W5) := HW3.out.trans (hb5.mono (by omega))
  have hz5 : W3.heap.size ≤ W5.heap.size := hb5.size
  clear ho5 hb5 HP3 HW3 wL
  have hcl : crc (payL st d v p) < 4294967296 := crc_lt _ (payL_lt st d v p m1)
  obtain ⟨C, hC⟩ : ∃ C, crc (payL st d v p) = C := ⟨_, rfl⟩
  rw [hC] at hcl
  have HC : Hid (crc (payL st d v p) = C) := hC
  clear hC
  have wC : IntKind.u64.wrap (C : Int) = (C : Nat) := by rw [IntKind.wrap_u64]; omega
  go_upto_region 4 with (first
    | (go_at_call 31; refine (jsum_cells gp 0 L cp (payL st d v p) W5 (by rw [payL_length]; exact HL.out) (by unfold maxLen; omega) (payL_lt st d v p m1) (fun i hi => by rw [Nat.zero_add]; exact HP5.out.cell i (by rw [payL_length, HL.out]; exact hi))).mono ?_; rw [HC.out]; rintro e w' ⟨rfl, hw⟩; rw [hw]; clear hw)
    | (go_at_call 36; refine (jappend4 W3.heap.size g5 c5 4 _ C W5 HO5.out (by rw [digs_length]) (by omega) (by omega) (by omega)).mono ?_; rintro e W6 ⟨g6, c6, rfl, ho6, hb6⟩))
  have HO6 := (show Hid (Own W6 W3.heap.size g6 c6 (digs L 4 ++ digs C 4)) from ho6)
  have HP6 : Hid (Own W6 W2.heap.size gp cp (payL st d v p)) := HP5.out.on hb6 hgp
  have HW6 : Hid (Below w.heap.size w W6) := HW5.out.trans (hb6.mono (by omega))
  have hz6 : W3.heap.size ≤ W6.heap.size := Nat.le_trans hz5 hb6.size
  clear ho6 hb6 HP5 HO5 HW5 hz5 wC
  have hlp : (payL st d v p).length = L := by rw [payL_length]; exact HL.out
  have hsrc := src_own HP6.out
  obtain ⟨g7, c7, W7, HR, HO7, HB7⟩ := app_own' (n := 4 + 4) (m := L) (k := 4 + 4 + L) HO6.out (by simp [digs_length]) hlp rfl (by omega) hsrc (by omega)
  rw [hlp] at HR
  clear hsrc hlp
  go_wp2_with (at_builtin; refine wpList_app rfl _ _ _ _ rfl rfl rfl HR.out ?_)
  go_ret
  refine ⟨g7, c7, by rw [show 25 + st.size + d.size = 4 + 4 + L by have := HL.out; omega]; rfl, ?_, HW6.out.trans (HB7.out.mono (by omega))⟩
  have h := HO7.out.mono (B' := w.heap.size) (by omega)
  rw [← HL.out, ← HC.out] at h
  exact h

set_option maxHeartbeats 2000000 in
theorem jframe_ok (v p : Nat) (st d : ByteArray) (w : World) (a : Nat → Addr) (hs : Sen 3 w a) (hm : may st d v p = 0) (hv : v < 9223372036854775808) (hp : p < 9223372036854775808) :
    Calls Tryd.prog 18 #[.agg (ev v p st d)] w fun e w' => ∃ g cap, e = .returned (.tuple #[.slice (some ⟨g, 0, none⟩) (25 + st.size + d.size) cap, .nilIface]) ∧ Own w' w.heap.size g cap (frL st d v p) ∧ Below w.heap.size w w' := by
  obtain ⟨m0, m1, m2, m3, m4⟩ := may_zero hm
  have hb1 : Below w.heap.size w (w.alloc (.cells (ev v p st d) 56)) := (Below.refl _ _).alloc (Nat.le_refl _) _
  have hs1 := hs.on hb1 (Nat.le_refl _)
  have HS : Hid (Sen 3 (w.alloc (.cells (ev v p st d) 56)) a) := hs1
  have HM : Hid (may st d v p = 0) := hm
  have HB2 : Hid (Below w.heap.size w ((w.alloc (.cells (ev v p st d) 56)).alloc (.cells (ev v p st d) 56))) := hb1.alloc (by simp) _
  have HX2 : Hid (Box ((w.alloc (.cells (ev v p st d) 56)).alloc (.cells (ev v p st d) 56)) w.heap.size v p st d) := (box_alloc w v p st d 56).on ((Below.refl (w.heap.size + 1) _).alloc (by simp) _) (by omega)
  have hz2 : w.heap.size + 2 ≤ ((w.alloc (.cells (ev v p st d) 56)).alloc (.cells (ev v p st d) 56)).heap.size := by simp
  clear hs hs1 hm hb1
  go_enter Tryd.func18, Tryd.ntmps18
  go_upto_region 2 with (go_at_call 27; refine (jeventError a v p st d _ HS.out (by unfold maxLen; omega) (by unfold maxLen; omega)).mono ?_; rintro e w' ⟨rfl, rfl⟩)
  rw [HM.out]
  clear HS
  obtain ⟨W2, hW2⟩ : ∃ W2, W2 = (w.alloc (.cells (ev v p st d) 56)).alloc (.cells (ev v p st d) 56) := ⟨_, rfl⟩
  rw [← hW2] at HB2 HX2 hz2 ⊢
  clear hW2
  rw [show errv a 0 = .nilIface from rfl]
  obtain ⟨y0, y1, y2, y3⟩ := HX2.out
  have HK : Hid (Calls Tryd.prog 28 #[.slice none 0 0, .agg (ev v p st d)] W2 fun e w' => ∃ g cap, e = .returned (.slice (some ⟨g, 0, none⟩) (25 + st.size + d.size) cap) ∧ Own w' W2.heap.size g cap (frL st d v p) ∧ Below W2.heap.size W2 w') := jrecord_nil v p st d W2 HM.out hv hp
  go_wp2_with (go_at_call 28; refine HK.out.mono ?_; rintro e W3 ⟨g, cap, rfl, ho, hb⟩)
  go_ret2
  exact ⟨g, cap, rfl, ho.mono (by omega), HB2.out.trans (hb.mono (by omega))⟩
end Go.Proofs.YtmmkbaaodebafaaDoor
