import Derived.Test.YtmmkbaaodebafaaDoorRframe
import Derived.Laws.BytesArg
namespace Go.Proofs.YtmmkbaaodebafaaDoor
open Go.RowKit Jr

set_option maxHeartbeats 2000000 in
theorem frames_big (st d : ByteArray) (v p : Int) (w : World) (h : (1073741824 : Int) < st.size ∨ (¬ (1073741824 : Int) < st.size ∧ (1073741824 : Int) < d.size)) (_hst : st.size ≤ 9223372036854775807) (_hd : d.size ≤ 9223372036854775807) :
    Calls Tryd.prog 4 #[.string st, .int .i64 v, .int .i64 p, .string d] w fun e w' => e = .returned (.bool true) ∧ Below w.heap.size w w' := by
  rcases h with h1 | ⟨h1, h2⟩
  all_goals
    go_enter Tryd.func4, Tryd.ntmps4
    go_wp2
    go_ret
    exact ⟨rfl, Below.refl _ _⟩

set_option maxHeartbeats 4000000 in
theorem frames_err (a : Nat → Addr) (st d : ByteArray) (v p : Int) (w : World) (hs : Sen 5 w a) (h1 : ¬ (1073741824 : Int) < st.size) (h2 : ¬ (1073741824 : Int) < d.size) (x : Nat) (hm : may st d v p = x + 1) (hx : x < 3) :
    Calls Tryd.prog 4 #[.string st, .int .i64 v, .int .i64 p, .string d] w fun e w' => e = .returned (.bool true) ∧ Below w.heap.size w w' := by
  have ms : st.size ≤ maxLen := by unfold maxLen; omega
  have md : d.size ≤ maxLen := by unfold maxLen; omega
  have HM : Hid (may st d v p = x + 1) := hm
  clear hm
  go_enter Tryd.func4, Tryd.ntmps4
  go_upto_region 6 with (first
    | (go_at_call 9; refine (pframe_err a v p st d w hs ms md x HM.out hx).mono ?_; rintro e W2 ⟨rfl, hb2⟩; have HB2 : Hid (Below w.heap.size w W2) := hb2; clear hb2 hs)
    | (go_at_call 10; refine (rmay v p st d _ ms md).mono ?_; rintro e w' ⟨rfl, hw⟩; rw [hw]; clear hw))
  rw [HM.out]
  match x, hx with
  | 0, _ =>
    go_wp2
    go_ret
    refine ⟨rfl, ?_⟩
    exact ((HB2.out.alloc (HB2.out.size) _).alloc (Nat.le_trans HB2.out.size (by simp)) _).alloc (Nat.le_trans HB2.out.size (by rw [World.size_alloc, World.size_alloc]; omega)) _
  | 1, _ =>
    go_wp2
    go_ret
    refine ⟨rfl, ?_⟩
    exact ((HB2.out.alloc (HB2.out.size) _).alloc (Nat.le_trans HB2.out.size (by simp)) _).alloc (Nat.le_trans HB2.out.size (by rw [World.size_alloc, World.size_alloc]; omega)) _
  | 2, _ =>
    go_wp2
    go_ret
    refine ⟨rfl, ?_⟩
    exact ((HB2.out.alloc (HB2.out.size) _).alloc (Nat.le_trans HB2.out.size (by simp)) _).alloc (Nat.le_trans HB2.out.size (by rw [World.size_alloc, World.size_alloc]; omega)) _

set_option maxHeartbeats 4000000 in
theorem frames_ok (a : Nat → Addr) (st d : ByteArray) (v p : Nat) (w : World) (hs : Sen 5 w a) (hm : may st d v p = 0) (hv : v < 9223372036854775808) (hp : p < 9223372036854775808) :
    Calls Tryd.prog 4 #[.string st, .int .i64 v, .int .i64 p, .string d] w fun e w' => e = .returned (.bool true) ∧ Below w.heap.size w w' := by
  obtain ⟨m0, m1, m2, m3, m4⟩ := may_zero hm
  have ms : st.size ≤ maxLen := by unfold maxLen; omega
  have md : d.size ≤ maxLen := by unfold maxLen; omega
  have HM : Hid (may st d v p = 0) := hm
  clear hm m3 m4
  obtain ⟨L, hL⟩ : ∃ L, 25 + st.size + d.size = L := ⟨_, rfl⟩
  have HL : Hid (25 + st.size + d.size = L) := hL
  clear hL
  go_enter Tryd.func4, Tryd.ntmps4
  go_upto_region 6 with (first
    | (go_at_call 9; refine (pframe_ok a v p st d w hs HM.out hv hp).mono ?_; rintro e W2 ⟨g, cap, rfl, ho2, hb2⟩; rw [HL.out]; have HB2 : Hid (Below w.heap.size w W2) := hb2; have HO2 : Hid (Own W2 w.heap.size g cap (frL st d v p)) := ho2; clear hb2 hs ho2)
    | (go_at_call 10; refine (rmay v p st d _ ms md).mono ?_; rintro e w' ⟨rfl, hw⟩; rw [hw]; clear hw))
  rw [HM.out]
  go_upto_region 12 with fail
  have hb3 : Below W2.heap.size W2 (((W2.alloc (.cells (told 0) 25)).alloc (.cells (pev st v p d) 30)).alloc (.cells (pev st v p d) 30)) := (((Below.refl _ _).alloc (Nat.le_refl _) _).alloc (by simp) _).alloc (by rw [World.size_alloc, World.size_alloc]; omega) _
  have t0 : (((W2.alloc (.cells (told 0) 25)).alloc (.cells (pev st v p d) 30)).alloc (.cells (pev st v p d) 30)).cell? ⟨W2.heap.size, 0, none⟩ = some (.int .i64 0) := by
    have hb : Below (W2.heap.size + 1) (W2.alloc (.cells (told 0) 25)) (((W2.alloc (.cells (told 0) 25)).alloc (.cells (pev st v p d) 30)).alloc (.cells (pev st v p d) 30)) := ((Below.refl _ _).alloc (by simp) _).alloc (by rw [World.size_alloc, World.size_alloc]; omega) _
    rw [hb.cell (p := ⟨W2.heap.size, 0, none⟩) (by simp)]
    exact (five_alloc W2 25).2.1
  have x3 := (pbox_alloc (W2.alloc (.cells (told 0) 25)) v p st d 30).on ((Below.refl (W2.heap.size + 2) _).alloc (by simp) (.cells (pev st v p d) 30)) (by simp)
  rw [World.size_alloc] at x3
  have hz3 : W2.heap.size + 3 ≤ (((W2.alloc (.cells (told 0) 25)).alloc (.cells (pev st v p d) 30)).alloc (.cells (pev st v p d) 30)).heap.size := by simp
  obtain ⟨W3, hW3⟩ : ∃ W3, W3 = ((W2.alloc (.cells (told 0) 25)).alloc (.cells (pev st v p d) 30)).alloc (.cells (pev st v p d) 30) := ⟨_, rfl⟩
  rw [← hW3] at hb3 t0 x3 hz3 ⊢
  clear hW3
  have HO3 : Hid (Own W3 w.heap.size g cap (frL st d v p)) := HO2.out.on hb3 HO2.out.lt
  have HB3 : Hid (Below w.heap.size w W3) := HB2.out.trans (hb3.mono HB2.out.size)
  obtain ⟨y0, y1, y2, y3⟩ := x3
  have hzw := HB2.out.size
  clear HO2 HB2 hb3
  have T0 : Hid (W3.cell? ⟨W2.heap.size, 0, none⟩ = some (.int .i64 0)) := t0
  clear t0
  go_upto_region 13 with (go_at_call 11; refine (rframe v p st d W3 HM.out hv hp).mono ?_; rintro e W4 ⟨g4, c4, rfl, ho4, hb4⟩; rw [HL.out])
  have t4 : W4.cell? ⟨W2.heap.size, 0, none⟩ = some (.int .i64 0) := (hb4.cell (p := ⟨W2.heap.size, 0, none⟩) (by show W2.heap.size < W3.heap.size; omega)).trans T0.out
  have hl := frL_length st d v p
  have k1 := conv_own (HO3.out.on hb4 HO3.out.lt) L (by rw [hl]; exact HL.out)
  have k2 := conv_own ho4 L (by rw [hl]; exact HL.out)
  have HB4 : Hid (Below w.heap.size w W4) := HB3.out.trans (hb4.mono (by omega))
  clear hl ho4 hb4 HO3 HB3 T0 y0 y1 y2 y3
  go_wp2
  go_ret
  exact ⟨rfl, HB4.out⟩

theorem i64_wf {x : Int} (h : (Lit.int .i64 x).wf = true) : -9223372036854775808 ≤ x ∧ x ≤ 9223372036854775807 := by
  simpa [Lit.wf, IntKind.min, IntKind.max, IntKind.signed, IntKind.bits] using h
theorem frames_any (a : Nat → Addr) (st : ByteArray) (v p : Int) (d : ByteArray) (w : World) (hs : Sen 5 w a) (hst : st.size ≤ maxLen) (hv : (Lit.int .i64 v).wf = true) (hp : (Lit.int .i64 p).wf = true) (hd : d.size ≤ maxLen) :
    Calls Tryd.prog 4 #[.string st, .int .i64 v, .int .i64 p, .string d] w fun e w' => e = .returned (.bool true) ∧ Below w.heap.size w w' := by
  have bv := i64_wf hv
  have bp := i64_wf hp
  by_cases h1 : (1073741824 : Int) < st.size
  · exact frames_big st d v p w (Or.inl h1) (by unfold maxLen at hst; omega) (by unfold maxLen at hd; omega)
  by_cases h2 : (1073741824 : Int) < d.size
  · exact frames_big st d v p w (Or.inr ⟨h1, h2⟩) (by unfold maxLen at hst; omega) (by unfold maxLen at hd; omega)
  by_cases hm : may st d v p = 0
  · obtain ⟨_, _, _, m3, m4⟩ := may_zero hm
    obtain ⟨vn, rfl⟩ : ∃ n : Nat, v = n := ⟨v.toNat, by omega⟩
    obtain ⟨pn, rfl⟩ : ∃ n : Nat, p = n := ⟨p.toNat, by omega⟩
    exact frames_ok a st d vn pn w hs hm (by omega) (by omega)
  · obtain ⟨x, hx, hm'⟩ : ∃ x, x < 3 ∧ may st d v p = x + 1 := by
      rcases may_cases st d v p with ⟨_, h'⟩ | ⟨_, _, h'⟩ | ⟨_, _, _, h'⟩ | ⟨_, _, _, _, h'⟩ | ⟨_, _, _, _, _, h'⟩ | ⟨_, _, _, _, _, h'⟩
      · exact ⟨0, by omega, h'⟩
      · exact ⟨0, by omega, h'⟩
      · exact ⟨1, by omega, h'⟩
      · exact ⟨2, by omega, h'⟩
      · exact ⟨2, by omega, h'⟩
      · exact absurd h' hm
    exact frames_err a st d v p w hs h1 h2 x hm' hx
end Go.Proofs.YtmmkbaaodebafaaDoor
