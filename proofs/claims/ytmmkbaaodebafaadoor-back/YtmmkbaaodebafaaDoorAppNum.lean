import Derived.Test.YtmmkbaaodebafaaDoorOwn
import Derived.Test.YtmmkbaaodebafaaDoorNumber
namespace Go.Proofs.YtmmkbaaodebafaaDoor
open Go.RowKit Jr

/-- The k low bytes of a number. -/
def digs (v k : Nat) : List Nat := (List.range k).map (dig v)
theorem digs_length (v k : Nat) : (digs v k).length = k := by simp [digs]
theorem digs_succ (v k : Nat) : digs v (k + 1) = digs v k ++ [dig v k] := by simp [digs, List.range_succ]
theorem digs_lt (v k : Nat) : ∀ x ∈ digs v k, x < 256 := fun x hx => by
  obtain ⟨i, _, rfl⟩ := List.mem_map.1 hx
  exact dig_lt _ _
theorem u8_dig (V v j : Nat) (h : V = v / 256 ^ j) : IntKind.u8.wrap (V : Int) = (dig v j : Nat) := by
  rw [IntKind.wrap_u8']; subst h; unfold dig; omega

set_option maxHeartbeats 1000000 in
/-- journal.appendNumber. -/
theorem jappend (B g cap : Nat) (l : List Nat) (v k : Nat) (w : World) (h : Own w B g cap l) (hB : B ≤ w.heap.size) (hv : v < 18446744073709551616) (hk : k ≤ 8) (hl : l.length ≤ 100000) :
    Calls Tryd.prog 36 #[.slice (some ⟨g, 0, none⟩) l.length cap, .int .u64 v, .int .i64 k] w fun e w' =>
      ∃ g' cap', e = .returned (.slice (some ⟨g', 0, none⟩) (l.length + k) cap') ∧ Own w' B g' cap' (l ++ digs v k) ∧ Below B w w' := by
  go_enter Tryd.func36, Tryd.ntmps36
  go_wp2
  go_loopw [0, 1, 8] (fun b n i wr => ∃ j : Nat, j ≤ k ∧ i = .int .i64 j ∧ n = .int .u64 ((v / 256 ^ j : Nat) : Int) ∧ ∃ g' cap', b = .slice (some ⟨g', 0, none⟩) (l.length + j) cap' ∧ Own wr B g' cap' (l ++ digs v j) ∧ Below B w wr) (fun _ _ i _ => k - (intOf i).toNat)
  case atStart => exact ⟨0, Nat.zero_le _, rfl, by simp, g, cap, rfl, by simpa [digs] using h, Below.refl _ _⟩
  case round =>
    obtain ⟨j, hj, rfl, rfl, g', cap', rfl, hown, hbel⟩ := hrel
    clear h
    by_cases hlt : j < k
    · obtain ⟨V, hV⟩ : ∃ V, V = v / 256 ^ j := ⟨_, rfl⟩
      have hVlt : V < 18446744073709551616 := by rw [hV]; exact Nat.lt_of_le_of_lt (Nat.div_le_self _ _) hv
      have hd := u8_dig V v j hV
      rw [← hV]
      have HV : Hid (V = v / 256 ^ j) := hV
      clear hV
      have hlen : (l ++ digs v j).length = l.length + j := by rw [List.length_append, digs_length]
      have hb1 : Below B wr (wr.alloc (.cells #[.int .u8 (dig v j : Nat)] 5)) := (Below.refl _ _).alloc (Nat.le_trans hB hbel.size) _
      have ho1 := hown.on ((Below.refl _ _).alloc (Nat.le_refl _) (.cells #[.int .u8 (dig v j : Nat)] 5)) hown.lt
      obtain ⟨g2, cap2, w2, hrun, hown2, hbel2⟩ := app_own ho1 (Nat.le_trans hB (Nat.le_trans hbel.size hb1.size)) (m := [dig v j]) (src_one wr (dig v j)) (by rw [hlen]; simp; omega)
      rw [hlen] at hrun
      have HO : Hid (Own w2 B g2 cap2 (l ++ digs v j ++ [dig v j])) := hown2
      have HB : Hid (Below B w w2) := (hbel.trans hb1).trans hbel2
      have HR : Hid (∀ ty, (Builtin.append_ #[23, 23] ty #[.slice (some ⟨g', 0, none⟩) (l.length + j) cap', .slice (some ⟨wr.heap.size, 0, none⟩) 1 1]).run Tryd.prog (wr.alloc (.cells #[.int .u8 (dig v j : Nat)] 5)) = .ok (.slice (some ⟨g2, 0, none⟩) (l.length + j + 1) cap2) w2) := hrun
      clear hrun hown2 hbel2 hown hbel hb1 ho1 hlen
      go_wp2_with (at_builtin; refine wpList_app rfl _ _ _ _ rfl rfl rfl HR.out ?_)
      go_roundw
      case rel => exact ⟨j + 1, by omega, by go_num, congrArg (Value.int .u64) (by rw [HV.out]; rw [Nat.pow_succ, ← Nat.div_div_eq_div_mul]; rfl), g2, cap2, rfl, by rw [digs_succ, ← List.append_assoc]; exact HO.out, HB.out⟩
      case measure => simp [intOf]; omega
    · have HO : Hid (Own wr B g' cap' (l ++ digs v j)) := hown
      have HB : Hid (Below B w wr) := hbel
      clear hown hbel
      go_wp2
      go_ret
      obtain rfl : j = k := by omega
      exact ⟨g', cap', rfl, HO.out, HB.out⟩

theorem jappend8 (B g cap n : Nat) (l : List Nat) (v : Nat) (w : World) (h : Own w B g cap l) (hn : l.length = n) (hB : B ≤ w.heap.size) (hv : v < 18446744073709551616) (hl : n ≤ 100000) :
    Calls Tryd.prog 36 #[.slice (some ⟨g, 0, none⟩) n cap, .int .u64 v, .int .i64 8] w fun e w' =>
      ∃ g' cap', e = .returned (.slice (some ⟨g', 0, none⟩) (n + 8) cap') ∧ Own w' B g' cap' (l ++ digs v 8) ∧ Below B w w' := by
  subst hn; exact jappend B g cap l v 8 w h hB hv (by omega) hl
theorem jappend4 (B g cap n : Nat) (l : List Nat) (v : Nat) (w : World) (h : Own w B g cap l) (hn : l.length = n) (hB : B ≤ w.heap.size) (hv : v < 18446744073709551616) (hl : n ≤ 100000) :
    Calls Tryd.prog 36 #[.slice (some ⟨g, 0, none⟩) n cap, .int .u64 v, .int .i64 4] w fun e w' =>
      ∃ g' cap', e = .returned (.slice (some ⟨g', 0, none⟩) (n + 4) cap') ∧ Own w' B g' cap' (l ++ digs v 4) ∧ Below B w w' := by
  subst hn; exact jappend B g cap l v 4 w h hB hv (by omega) hl

set_option maxHeartbeats 1000000 in
/-- journal.appendNumber on a nil list. -/
theorem jappendN (v k : Nat) (w : World) (hv : v < 18446744073709551616) (hk : k ≤ 8) (hk0 : 0 < k) :
    Calls Tryd.prog 36 #[.slice none 0 0, .int .u64 v, .int .i64 k] w fun e w' =>
      ∃ g' cap', e = .returned (.slice (some ⟨g', 0, none⟩) k cap') ∧ Own w' w.heap.size g' cap' (digs v k) ∧ Below w.heap.size w w' := by
  go_enter Tryd.func36, Tryd.ntmps36
  go_wp2
  go_loopw [0, 1, 8] (fun b n i wr => ∃ j : Nat, j ≤ k ∧ i = .int .i64 j ∧ n = .int .u64 ((v / 256 ^ j : Nat) : Int) ∧ Below w.heap.size w wr ∧ ((j = 0 ∧ b = .slice none 0 0) ∨ ∃ g' cap', b = .slice (some ⟨g', 0, none⟩) j cap' ∧ Own wr w.heap.size g' cap' (digs v j))) (fun _ _ i _ => k - (intOf i).toNat)
  case atStart => exact ⟨0, Nat.zero_le _, rfl, by simp, Below.refl _ _, Or.inl ⟨rfl, rfl⟩⟩
  case round =>
    obtain ⟨j, hj, rfl, rfl, hbel, hcase⟩ := hrel
    by_cases hlt : j < k
    · obtain ⟨V, hV⟩ : ∃ V, V = v / 256 ^ j := ⟨_, rfl⟩
      have hVlt : V < 18446744073709551616 := by rw [hV]; exact Nat.lt_of_le_of_lt (Nat.div_le_self _ _) hv
      have hd := u8_dig V v j hV
      rw [← hV]
      have HV : Hid (V = v / 256 ^ j) := hV
      clear hV
      have hb1 : Below w.heap.size wr (wr.alloc (.cells #[.int .u8 (dig v j : Nat)] 5)) := (Below.refl _ _).alloc hbel.size _
      rcases hcase with ⟨rfl, rfl⟩ | ⟨g', cap', rfl, hown⟩
      · obtain ⟨cap2, w2, hrun, hown2, hbel2⟩ := app_nil (wr.alloc (.cells #[.int .u8 (dig v 0 : Nat)] 5)) (m := [dig v 0]) (src_one wr (dig v 0)) (by simp) (by simp)
        have HO : Hid (Own w2 w.heap.size (wr.alloc (.cells #[.int .u8 (dig v 0 : Nat)] 5)).heap.size cap2 [dig v 0]) := hown2.mono (Nat.le_trans hbel.size hb1.size)
        have HB : Hid (Below w.heap.size w w2) := (hbel.trans hb1).trans (hbel2.mono (Nat.le_trans hbel.size hb1.size))
        have HR : Hid (∀ ty, (Builtin.append_ #[23, 23] ty #[.slice none 0 0, .slice (some ⟨wr.heap.size, 0, none⟩) 1 1]).run Tryd.prog (wr.alloc (.cells #[.int .u8 (dig v 0 : Nat)] 5)) = .ok (.slice (some ⟨(wr.alloc (.cells #[.int .u8 (dig v 0 : Nat)] 5)).heap.size, 0, none⟩) 1 cap2) w2) := hrun
        clear hrun hown2 hbel2 hbel hb1
        go_wp2_with (at_builtin; refine wpList_app rfl _ _ _ _ rfl rfl rfl HR.out ?_)
        go_roundw
        case rel => exact ⟨1, by omega, by go_num, congrArg (Value.int .u64) (by rw [HV.out]; simp), HB.out, Or.inr ⟨_, cap2, rfl, by have h := HO.out; rw [World.size_alloc] at h; exact h⟩⟩
        case measure => simp [intOf]; omega
      · have hlen : (digs v j).length = j := digs_length _ _
        have ho1 := hown.on ((Below.refl _ _).alloc (Nat.le_refl _) (.cells #[.int .u8 (dig v j : Nat)] 5)) hown.lt
        obtain ⟨g2, cap2, w2, hrun, hown2, hbel2⟩ := app_own ho1 (Nat.le_trans hbel.size hb1.size) (m := [dig v j]) (src_one wr (dig v j)) (by rw [hlen]; simp; omega)
        rw [hlen] at hrun
        have HO : Hid (Own w2 w.heap.size g2 cap2 (digs v j ++ [dig v j])) := hown2
        have HB : Hid (Below w.heap.size w w2) := (hbel.trans hb1).trans hbel2
        have HR : Hid (∀ ty, (Builtin.append_ #[23, 23] ty #[.slice (some ⟨g', 0, none⟩) j cap', .slice (some ⟨wr.heap.size, 0, none⟩) 1 1]).run Tryd.prog (wr.alloc (.cells #[.int .u8 (dig v j : Nat)] 5)) = .ok (.slice (some ⟨g2, 0, none⟩) (j + 1) cap2) w2) := hrun
        clear hrun hown2 hbel2 hown hbel hb1 ho1 hlen
        go_wp2_with (at_builtin; refine wpList_app rfl _ _ _ _ rfl rfl rfl HR.out ?_)
        go_roundw
        case rel => exact ⟨j + 1, by omega, by go_num, congrArg (Value.int .u64) (by rw [HV.out]; rw [Nat.pow_succ, ← Nat.div_div_eq_div_mul]; rfl), HB.out, Or.inr ⟨g2, cap2, rfl, by rw [digs_succ]; exact HO.out⟩⟩
        case measure => simp [intOf]; omega
    · obtain rfl : j = k := by omega
      rcases hcase with ⟨rfl, rfl⟩ | ⟨g', cap', rfl, hown⟩
      · omega
      · have HO : Hid (Own wr w.heap.size g' cap' (digs v j)) := hown
        have HB : Hid (Below w.heap.size w wr) := hbel
        clear hown hbel
        go_wp2
        go_ret
        exact ⟨g', cap', rfl, HO.out, HB.out⟩
theorem jappendN4 (v : Nat) (w : World) (hv : v < 18446744073709551616) :
    Calls Tryd.prog 36 #[.slice none 0 0, .int .u64 v, .int .i64 4] w fun e w' =>
      ∃ g' cap', e = .returned (.slice (some ⟨g', 0, none⟩) 4 cap') ∧ Own w' w.heap.size g' cap' (digs v 4) ∧ Below w.heap.size w w' := jappendN v 4 w hv (by omega) (by omega)

set_option maxHeartbeats 1000000 in
/-- journalref.number. -/
theorem rnumber (v k : Nat) (w : World) (hv : v < 18446744073709551616) (hk : k ≤ 8) (hk0 : 0 < k) :
    Calls Tryd.prog 20 #[.int .u64 v, .int .i64 k] w fun e w' =>
      ∃ g' cap', e = .returned (.slice (some ⟨g', 0, none⟩) k cap') ∧ Own w' w.heap.size g' cap' (digs v k) ∧ Below w.heap.size w w' := by
  go_enter Tryd.func20, Tryd.ntmps20
  go_wp2
  go_loopw [0, 5, 6] (fun n b i wr => ∃ j : Nat, j ≤ k ∧ i = .int .i64 j ∧ n = .int .u64 ((v / 256 ^ j : Nat) : Int) ∧ Below w.heap.size w wr ∧ ((j = 0 ∧ b = .slice none 0 0) ∨ ∃ g' cap', b = .slice (some ⟨g', 0, none⟩) j cap' ∧ Own wr w.heap.size g' cap' (digs v j))) (fun _ _ i _ => k - (intOf i).toNat)
  case atStart => exact ⟨0, Nat.zero_le _, rfl, by simp, Below.refl _ _, Or.inl ⟨rfl, rfl⟩⟩
  case round =>
    obtain ⟨j, hj, rfl, rfl, hbel, hcase⟩ := hrel
    by_cases hlt : j < k
    · obtain ⟨V, hV⟩ : ∃ V, V = v / 256 ^ j := ⟨_, rfl⟩
      have hVlt : V < 18446744073709551616 := by rw [hV]; exact Nat.lt_of_le_of_lt (Nat.div_le_self _ _) hv
      have hd := u8_dig V v j hV
      rw [← hV]
      have HV : Hid (V = v / 256 ^ j) := hV
      clear hV
      have hb1 : Below w.heap.size wr (wr.alloc (.cells #[.int .u8 (dig v j : Nat)] 5)) := (Below.refl _ _).alloc hbel.size _
      rcases hcase with ⟨rfl, rfl⟩ | ⟨g', cap', rfl, hown⟩
      · obtain ⟨cap2, w2, hrun, hown2, hbel2⟩ := app_nil (wr.alloc (.cells #[.int .u8 (dig v 0 : Nat)] 5)) (m := [dig v 0]) (src_one wr (dig v 0)) (by simp) (by simp)
        have HO : Hid (Own w2 w.heap.size (wr.alloc (.cells #[.int .u8 (dig v 0 : Nat)] 5)).heap.size cap2 [dig v 0]) := hown2.mono (Nat.le_trans hbel.size hb1.size)
        have HB : Hid (Below w.heap.size w w2) := (hbel.trans hb1).trans (hbel2.mono (Nat.le_trans hbel.size hb1.size))
        have HR : Hid (∀ ty, (Builtin.append_ #[23, 23] ty #[.slice none 0 0, .slice (some ⟨wr.heap.size, 0, none⟩) 1 1]).run Tryd.prog (wr.alloc (.cells #[.int .u8 (dig v 0 : Nat)] 5)) = .ok (.slice (some ⟨(wr.alloc (.cells #[.int .u8 (dig v 0 : Nat)] 5)).heap.size, 0, none⟩) 1 cap2) w2) := hrun
        clear hrun hown2 hbel2 hbel hb1
        go_wp2_with (at_builtin; refine wpList_app rfl _ _ _ _ rfl rfl rfl HR.out ?_)
        go_roundw
        case rel => exact ⟨1, by omega, by go_num, congrArg (Value.int .u64) (by rw [HV.out]; simp), HB.out, Or.inr ⟨_, cap2, rfl, by have h := HO.out; rw [World.size_alloc] at h; exact h⟩⟩
        case measure => simp [intOf]; omega
      · have hlen : (digs v j).length = j := digs_length _ _
        have ho1 := hown.on ((Below.refl _ _).alloc (Nat.le_refl _) (.cells #[.int .u8 (dig v j : Nat)] 5)) hown.lt
        obtain ⟨g2, cap2, w2, hrun, hown2, hbel2⟩ := app_own ho1 (Nat.le_trans hbel.size hb1.size) (m := [dig v j]) (src_one wr (dig v j)) (by rw [hlen]; simp; omega)
        rw [hlen] at hrun
        have HO : Hid (Own w2 w.heap.size g2 cap2 (digs v j ++ [dig v j])) := hown2
        have HB : Hid (Below w.heap.size w w2) := (hbel.trans hb1).trans hbel2
        have HR : Hid (∀ ty, (Builtin.append_ #[23, 23] ty #[.slice (some ⟨g', 0, none⟩) j cap', .slice (some ⟨wr.heap.size, 0, none⟩) 1 1]).run Tryd.prog (wr.alloc (.cells #[.int .u8 (dig v j : Nat)] 5)) = .ok (.slice (some ⟨g2, 0, none⟩) (j + 1) cap2) w2) := hrun
        clear hrun hown2 hbel2 hown hbel hb1 ho1 hlen
        go_wp2_with (at_builtin; refine wpList_app rfl _ _ _ _ rfl rfl rfl HR.out ?_)
        go_roundw
        case rel => exact ⟨j + 1, by omega, by go_num, congrArg (Value.int .u64) (by rw [HV.out]; rw [Nat.pow_succ, ← Nat.div_div_eq_div_mul]; rfl), HB.out, Or.inr ⟨g2, cap2, rfl, by rw [digs_succ]; exact HO.out⟩⟩
        case measure => simp [intOf]; omega
    · obtain rfl : j = k := by omega
      rcases hcase with ⟨rfl, rfl⟩ | ⟨g', cap', rfl, hown⟩
      · omega
      · have HO : Hid (Own wr w.heap.size g' cap' (digs v j)) := hown
        have HB : Hid (Below w.heap.size w wr) := hbel
        clear hown hbel
        go_wp2
        go_ret
        exact ⟨g', cap', rfl, HO.out, HB.out⟩
theorem rnumber8 (v : Nat) (w : World) (hv : v < 18446744073709551616) :
    Calls Tryd.prog 20 #[.int .u64 v, .int .i64 8] w fun e w' =>
      ∃ g' cap', e = .returned (.slice (some ⟨g', 0, none⟩) 8 cap') ∧ Own w' w.heap.size g' cap' (digs v 8) ∧ Below w.heap.size w w' := rnumber v 8 w hv (by omega) (by omega)
theorem rnumber4 (v : Nat) (w : World) (hv : v < 18446744073709551616) :
    Calls Tryd.prog 20 #[.int .u64 v, .int .i64 4] w fun e w' =>
      ∃ g' cap', e = .returned (.slice (some ⟨g', 0, none⟩) 4 cap') ∧ Own w' w.heap.size g' cap' (digs v 4) ∧ Below w.heap.size w w' := rnumber v 4 w hv (by omega) (by omega)
end Go.Proofs.YtmmkbaaodebafaaDoor
