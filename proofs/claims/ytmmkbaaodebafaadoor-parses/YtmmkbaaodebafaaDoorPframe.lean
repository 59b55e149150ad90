import Derived.Test.YtmmkbaaodebafaaDoorFrame
import Derived.Test.YtmmkbaaodebafaaDoorConv
import Derived.Test.YtmmkbaaodebafaaDoorOf
namespace Go.Proofs.YtmmkbaaodebafaaDoor
open Go.RowKit Jr

/-- Five cells that can be written. -/
def Five (W : World) (b : Nat) : Prop := (∀ i, i < 5 → W.frozen? ⟨b, i, none⟩ = false) ∧ W.cell? ⟨b, 0, none⟩ = some (.int .i64 0) ∧ W.cell? ⟨b, 1, none⟩ = some (.string ⟨#[]⟩) ∧ W.cell? ⟨b, 2, none⟩ = some (.int .i64 0) ∧ W.cell? ⟨b, 3, none⟩ = some (.int .i64 0) ∧ W.cell? ⟨b, 4, none⟩ = some (.bool false)
theorem Five.on {W W' : World} {b B : Nat} (h : Five W b) (hb : Below B W W') (hB : b < B) : Five W' b :=
  ⟨fun i hi => (hb.frozen hB).trans (h.1 i hi), (hb.cell hB).trans h.2.1, (hb.cell hB).trans h.2.2.1, (hb.cell hB).trans h.2.2.2.1, (hb.cell hB).trans h.2.2.2.2.1, (hb.cell hB).trans h.2.2.2.2.2⟩
theorem five_alloc (w : World) (t : TypeId) : Five (w.alloc (.cells (told 0) t)) w.heap.size := by
  refine ⟨fun i hi => by simp [go_sem], ?_, ?_, ?_, ?_, ?_⟩ <;> simp [World.cell?_alloc_at]

theorem Own.setOther {w : World} {B g cap : Nat} {l : List Nat} (h : Own w B g cap l) (q : Addr) (u : Value) (hq : q.block ≠ g) : Own (w.setCell q u) B g cap l := by
  have hc : ∀ i, (w.setCell q u).cell? ⟨g, i, none⟩ = w.cell? ⟨g, i, none⟩ := fun i => World.cell?_of_block (w := w) (Below.heap_setCell _ _ _ _ (Ne.symm hq))
  exact ⟨h.base, by simpa [World.setCell] using h.lt, h.le, fun i hi => (hc i).trans (h.cell i hi), fun i h1 h2 => by rw [hc]; exact h.rest i h1 h2, fun i hi => by rw [World.frozen?_setCell]; exact h.free i hi⟩

set_option maxHeartbeats 2000000 in
theorem pframe_err (a : Nat → Addr) (v p : Int) (st d : ByteArray) (w : World) (hs : Sen 5 w a) (hst : st.size ≤ maxLen) (hd : d.size ≤ maxLen) (x : Nat) (hm : may st d v p = x + 1) (hx : x < 3) :
    Calls Tryd.prog 9 #[.agg (pev st v p d)] w fun e w' => e = .returned (.tuple #[.slice none 0 0, .agg (told (tcode (x + 1)))]) ∧ Below w.heap.size w w' := by
  have hb1 : Below w.heap.size w ((w.alloc (.cells (pev st v p d) 29)).alloc (.cells (told 0) 25)) := ((Below.refl _ _).alloc (Nat.le_refl _) _).alloc (by simp) _
  have hs1 := hs.on hb1 (Nat.le_refl _)
  have h5 := five_alloc (w.alloc (.cells (pev st v p d) 29)) 25
  rw [World.size_alloc] at h5
  have hz1 : w.heap.size + 2 ≤ ((w.alloc (.cells (pev st v p d) 29)).alloc (.cells (told 0) 25)).heap.size := by simp
  have hs3 : Sen 3 ((w.alloc (.cells (pev st v p d) 29)).alloc (.cells (told 0) 25)) a := ⟨fun i hi => hs1.g i (by omega), fun i hi => hs1.row i (by omega), fun i j hi hj => hs1.ne i j (by omega) (by omega)⟩
  clear hs
  go_enter Tryd.func9, Tryd.ntmps9
  go_upto_region 2 with (go_at_call 18; refine (jframe_err a v p st d _ hs3 hst hd x hm hx).mono ?_; rintro e W2 ⟨rfl, hb2⟩)
  have hs2 := hs1.on hb2 (by omega)
  have h52 := h5.on hb2 (by omega)
  have HB2 : Hid (Below w.heap.size w W2) := hb1.trans (hb2.mono (by omega))
  have hz2 : w.heap.size + 2 ≤ W2.heap.size := Nat.le_trans hz1 hb2.size
  clear hb1 hs1 h5 hz1 hs3 hb2
  go_wp2_with (go_at_call 19; refine (of_any a W2 hs2 (x + 1) (by omega)).mono ?_; rintro e W3 ⟨rfl, hb3⟩; obtain ⟨f, c0, c1, c2, c3, c4⟩ := h52.on hb3 (by omega); have f0 := f 0 (by omega); have f1 := f 1 (by omega); have f2 := f 2 (by omega); have f3 := f 3 (by omega); have f4 := f 4 (by omega); have HB3 : Hid (Below w.heap.size w W3) := HB2.out.trans (hb3.mono (by omega)); clear hs2 h52 hb3 HB2 f)
  refine bodyPost_ret (v := .tuple #[.slice none 0 0, .agg (told (tcode (x + 1)))]) (by simp [results, Tryd.results9, go_sem, c0, c1, c2, c3, c4]) rfl ⟨rfl, ?_⟩
  exact ((((HB3.out.setCell (by simp) _).setCell (by simp) _).setCell (by simp) _).setCell (by simp) _).setCell (by simp) _

set_option maxHeartbeats 2000000 in
theorem pframe_ok (a : Nat → Addr) (v p : Nat) (st d : ByteArray) (w : World) (hs : Sen 5 w a) (hm : may st d v p = 0) (hv : v < 9223372036854775808) (hp : p < 9223372036854775808) :
    Calls Tryd.prog 9 #[.agg (pev st v p d)] w fun e w' => ∃ g cap, e = .returned (.tuple #[.slice (some ⟨g, 0, none⟩) (25 + st.size + d.size) cap, .agg (told 0)]) ∧ Own w' w.heap.size g cap (frL st d v p) ∧ Below w.heap.size w w' := by
  have hb1 : Below w.heap.size w ((w.alloc (.cells (pev st v p d) 29)).alloc (.cells (told 0) 25)) := ((Below.refl _ _).alloc (Nat.le_refl _) _).alloc (by simp) _
  have hs1 := hs.on hb1 (Nat.le_refl _)
  have h5 := five_alloc (w.alloc (.cells (pev st v p d) 29)) 25
  rw [World.size_alloc] at h5
  have hz1 : w.heap.size + 2 ≤ ((w.alloc (.cells (pev st v p d) 29)).alloc (.cells (told 0) 25)).heap.size := by simp
  have hs3 : Sen 3 ((w.alloc (.cells (pev st v p d) 29)).alloc (.cells (told 0) 25)) a := ⟨fun i hi => hs1.g i (by omega), fun i hi => hs1.row i (by omega), fun i j hi hj => hs1.ne i j (by omega) (by omega)⟩
  have HM : Hid (may st d v p = 0) := hm
  clear hs hm
  go_enter Tryd.func9, Tryd.ntmps9
  go_upto_region 2 with (go_at_call 18; refine (jframe_ok v p st d _ a hs3 HM.out hv hp).mono ?_; rintro e W2 ⟨g, cap, rfl, ho2, hb2⟩)
  have h52 := h5.on hb2 (by omega)
  have HO2 := ho2.mono hz1
  have HB2 : Hid (Below w.heap.size w W2) := hb1.trans (hb2.mono (by omega))
  have hz2 : w.heap.size + 2 ≤ W2.heap.size := Nat.le_trans hz1 hb2.size
  clear hb1 hs1 h5 hz1 hs3 hb2 ho2
  go_wp2_with (go_at_call 19; refine (of_nil W2).mono ?_; rintro e W3 ⟨rfl, hb3⟩; obtain ⟨f, c0, c1, c2, c3, c4⟩ := h52.on hb3 (by omega); have f0 := f 0 (by omega); have f1 := f 1 (by omega); have f2 := f 2 (by omega); have f3 := f 3 (by omega); have f4 := f 4 (by omega); have HB3 : Hid (Below w.heap.size w W3) := HB2.out.trans (hb3.mono (by omega)); have HO3 : Hid (Own W3 (w.heap.size + 2) g cap (frL st d v p)) := HO2.on hb3 HO2.lt; clear h52 hb3 HB2 f HO2)
  refine bodyPost_ret (v := .tuple #[.slice (some ⟨g, 0, none⟩) (25 + st.size + d.size) cap, .agg (told 0)]) (by simp [results, Tryd.results9, go_sem, c0, c1, c2, c3, c4]) rfl ⟨g, cap, rfl, ?_, ?_⟩
  · have hg := HO3.out.base
    exact (HO3.out.setOther _ _ (by simp; omega) |>.setOther _ _ (by simp; omega) |>.setOther _ _ (by simp; omega) |>.setOther _ _ (by simp; omega) |>.setOther _ _ (by simp; omega)).mono (by omega)
  · exact ((((HB3.out.setCell (by simp) _).setCell (by simp) _).setCell (by simp) _).setCell (by simp) _).setCell (by simp) _
end Go.Proofs.YtmmkbaaodebafaaDoor
