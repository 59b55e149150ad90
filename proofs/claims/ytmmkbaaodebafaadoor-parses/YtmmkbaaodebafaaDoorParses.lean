import Derived.Test.YtmmkbaaodebafaaDoorPparse
import Derived.Test.YtmmkbaaodebafaaDoorRparseV
import Derived.Test.YtmmkbaaodebafaaDoorRframe
namespace Go.Proofs.YtmmkbaaodebafaaDoor
open Go.RowKit Jr

set_option maxHeartbeats 1000000 in
theorem levent (v p : Int) (st d : ByteArray) (w : World) :
    Calls Tryd.prog 14 #[.agg (pev st v p d)] w fun e w' => e = .returned (.agg (pev st v p d)) ∧ Below w.heap.size w w' := by
  go_enter Tryd.func14, Tryd.ntmps14
  go_wp2
  refine bodyPost_ret (v := .agg (pev st v p d)) (by simp [results, Tryd.results14, go_sem]) rfl ⟨rfl, ?_⟩
  go_grown

set_option maxRecDepth 10000 in
set_option maxHeartbeats 4000000 in
theorem parses_walk (a : Nat → Addr) (s : ByteArray) (w : World) (hs : Sen 3 w a) (hsz : ¬ (1073741824 : Int) < s.size) :
    Calls Tryd.prog 5 #[.string s] w fun e w' => e = .returned (.bool true) ∧ Below w.heap.size w w' := by
  obtain ⟨r, hr⟩ : ∃ r, parseV (byt s) s.size = r := ⟨_, rfl⟩
  have HRr : Hid (parseV (byt s) s.size = r) := hr
  clear hr
  go_enter Tryd.func5, Tryd.ntmps5
  go_upto_region 4 with (go_at_call 12; refine (pparse a s w hs (by omega)).mono ?_; rw [HRr.out]; rintro e W2 ⟨rfl, hb2⟩)
  have B3 : Hid (Below w.heap.size w (W2.alloc (.cells (pev r.st r.v r.p r.d) 29))) := hb2.alloc hb2.size _
  have X3 : Hid (PBox (W2.alloc (.cells (pev r.st r.v r.p r.d) 29)) W2.heap.size r.v r.p r.st r.d) := pbox_alloc W2 r.v r.p r.st r.d _
  have hz3 : W2.heap.size < (W2.alloc (.cells (pev r.st r.v r.p r.d) 29)).heap.size := by simp
  have hzw : w.heap.size ≤ W2.heap.size := hb2.size
  obtain ⟨W3, hW3⟩ : ∃ W3, W3 = W2.alloc (.cells (pev r.st r.v r.p r.d) 29) := ⟨_, rfl⟩
  rw [← hW3] at B3 X3 hz3 ⊢
  clear hW3 hb2 hs
  have kc := bw_conv W3 s
  have hcap := grownCap_ge W3 s.size 0 5
  have hcapm := grownCap_le_maxLen W3 s.size 0 5 (by unfold maxLen; omega)
  unfold maxLen at hcapm
  have CB : Hid (∀ i, i < s.size → (Lib.bytesWorld W3 5 s).cell? ⟨W3.heap.size, 0 + i, none⟩ = some (.int .u8 (byt s i : Nat))) := bw_cell W3 s
  have B4 : Hid (Below W3.heap.size W3 (Lib.bytesWorld W3 5 s)) := Joins.below_bytesWorld _ _ _ _ (Nat.le_refl _)
  have Z4 : Hid (W3.heap.size < (Lib.bytesWorld W3 5 s).heap.size) := by show _ < _; rw [Lib.bytesWorld_size]; omega
  go_upto_region 5 with (go_at_call 13; refine (rparse W3.heap.size 0 s.size (grownCap W3 s.size 0 5) (byt s) (Lib.bytesWorld W3 5 s) (by omega) hcap hcapm (fun i _ => byt_lt s i) CB.out Z4.out).mono ?_; rw [HRr.out]; rintro e W5 ⟨rfl, hb5⟩)
  have b35 : Below W3.heap.size W3 W5 := B4.out.trans (hb5.mono (Nat.le_of_lt Z4.out))
  have b56 : Below W5.heap.size W5 (W5.alloc (.cells (pev r.st r.v r.p r.d) 30)) := (Below.refl _ _).alloc (Nat.le_refl _) _
  have X6 : PBox (W5.alloc (.cells (pev r.st r.v r.p r.d) 30)) W2.heap.size r.v r.p r.st r.d := X3.out.on (b35.trans (b56.mono b35.size)) hz3
  have Y6 : Hid (PBox (W5.alloc (.cells (pev r.st r.v r.p r.d) 30)) W5.heap.size r.v r.p r.st r.d) := pbox_alloc W5 r.v r.p r.st r.d _
  have B6 : Hid (Below w.heap.size w (W5.alloc (.cells (pev r.st r.v r.p r.d) 30))) := B3.out.trans ((b35.trans (b56.mono b35.size)).mono (by omega))
  have hz6 : W5.heap.size < (W5.alloc (.cells (pev r.st r.v r.p r.d) 30)).heap.size := by simp
  have hz65 : w.heap.size ≤ W5.heap.size := Nat.le_trans (by omega) b35.size
  obtain ⟨W6, hW6⟩ : ∃ W6, W6 = W5.alloc (.cells (pev r.st r.v r.p r.d) 30) := ⟨_, rfl⟩
  rw [← hW6] at X6 Y6 B6 hz6 ⊢
  clear hW6 b35 b56 hb5 X3 kc hcap hcapm CB B4 Z4
  obtain ⟨x0, x1, x2, x3⟩ := X6
  go_upto_region 6 with (go_at_call 14; refine (levent r.v r.p r.st r.d W6).mono ?_; rintro e W7 ⟨rfl, hb7⟩)
  obtain ⟨y0, y1, y2, y3⟩ := Y6.out.on hb7 hz6
  have hz7 : W5.heap.size < W7.heap.size := Nat.lt_of_lt_of_le hz6 hb7.size
  have B7 : Hid (Below w.heap.size w W7) := B6.out.trans (hb7.mono (by omega))
  clear hb7 Y6 B6 x0 x1 x2 x3
  go_wp2
  go_ret
  exact ⟨rfl, B7.out.alloc B7.out.size _⟩

theorem parses_any (a : Nat → Addr) (s : ByteArray) (w : World) (hs : Sen 3 w a) (_hsz : s.size ≤ maxLen) :
    Calls Tryd.prog 5 #[.string s] w fun e w' => e = .returned (.bool true) ∧ Below w.heap.size w w' := by
  by_cases h : (1073741824 : Int) < s.size
  · go_enter Tryd.func5, Tryd.ntmps5
    go_wp2
    go_ret
    exact ⟨rfl, Below.refl _ _⟩
  · exact parses_walk a s w hs h
end Go.Proofs.YtmmkbaaodebafaaDoor
