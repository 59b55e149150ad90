import Derived.Test.YtploagfjajlloaaGreatDoorAskA
import Derived.Test.YtploagfjajlloaaGreatDoorDkY
namespace Go.Proofs.YtploagfjajlloaaGreatDoor
open Go.RowKit Jr

abbrev dif (d : Nat) : Value := .iface 30 (.pointer (some ⟨d, 0, none⟩))

set_option maxRecDepth 10000 in
set_option maxHeartbeats 2000000 in
theorem jremove1 (p1 p2 d : Nat) (nm : ByteArray) (R : World → Prop) (w : World) (o1 : w.heap[p1]? = some (.cells #[dif d] 90 (0, 0))) (o2 : w.heap[p2]? = some (.cells #[.string nm] 9 (0, 0)))
    (hK : Calls Tryz.prog 211 #[.pointer (some ⟨d, 0, none⟩), .string nm] w fun e w' => e = .returned .nilIface ∧ R w') :
    Calls Tryz.prog 98 #[.pointer (some ⟨p1, 0, none⟩), .pointer (some ⟨p2, 0, none⟩)] w fun e w' => e = .returned .nilIface ∧ R w' := by
  have c1 : w.cell? ⟨p1, 0, none⟩ = some (dif d) := cell_obj o1
  have c2 : w.cell? ⟨p2, 0, none⟩ = some (.string nm) := cell_obj o2
  have HK : Hid (Calls Tryz.prog 211 #[.pointer (some ⟨d, 0, none⟩), .string nm] w fun e w' => e = .returned .nilIface ∧ R w') := hK
  clear hK o1 o2
  go_enter Tryz.func98, Tryz.ntmps98
  go_wp2_with (go_at_call 211; refine Calls.mono HK.out ?_; rintro e W2 ⟨rfl, hR⟩)
  go_ret
  exact ⟨rfl, hR⟩

set_option maxRecDepth 10000 in
set_option maxHeartbeats 2000000 in
theorem jremove (d : Nat) (nm : ByteArray) (F : Nat → Prop) (R : World → Prop) (w : World) (hF : ∀ k, F k → k < w.heap.size)
    (hK : ∀ W, Below w.heap.size w W → Calls Tryz.prog 211 #[.pointer (some ⟨d, 0, none⟩), .string nm] W fun e w' => e = .returned .nilIface ∧ Kp F W w' ∧ R w') :
    Calls Tryz.prog 59 #[dif d, .string nm] w fun e w'' => e = .returned .nilIface ∧ ∃ W', R W' ∧ Below W'.heap.size W' w'' ∧ Kp F w w'' := by
  have hmf := mkf
  have hb1 : Below w.heap.size w ((w.alloc (.cells #[dif d] 90)).alloc (.cells #[.string nm] 9)) := ((Below.refl _ _).alloc (Nat.le_refl _) _).alloc (by simp) _
  have o1 : ((w.alloc (.cells #[dif d] 90)).alloc (.cells #[.string nm] 9)).heap[w.heap.size]? = some (.cells #[dif d] 90 (0, 0)) := obj_alloc (obj_new _ _)
  have o2 : ((w.alloc (.cells #[dif d] 90)).alloc (.cells #[.string nm] 9)).heap[w.heap.size + 1]? = some (.cells #[.string nm] 9 (0, 0)) := by
    have := obj_new (w.alloc (.cells #[dif d] 90)) (.cells #[.string nm] 9)
    simpa using this
  have HC : Hid (Calls Tryz.prog 48 #[.func (.func 98) #[] #[.pointer (some ⟨w.heap.size, 0, none⟩), .pointer (some ⟨w.heap.size + 1, 0, none⟩)]] ((w.alloc (.cells #[dif d] 90)).alloc (.cells #[.string nm] 9)) fun e w'' => e = .returned .nilIface ∧ ∃ W', R W' ∧ Below W'.heap.size W' w'' ∧ Kp F ((w.alloc (.cells #[dif d] 90)).alloc (.cells #[.string nm] 9)) w'') :=
    jask_remove _ _ F R _ (fun k hk => Nat.lt_of_lt_of_le (hF k hk) hb1.size) fun W hW => jremove1 _ _ d nm _ W (below_obj hW (heap_lt o1) o1) (below_obj hW (heap_lt o2) o2) (hK W (hb1.trans (hW.mono hb1.size)))
  have HB1 : Hid (Below w.heap.size w ((w.alloc (.cells #[dif d] 90)).alloc (.cells #[.string nm] 9))) := hb1
  clear hK hF hb1 o1 o2
  go_enter Tryz.func59, Tryz.ntmps59
  go_wp2_with (go_at_call 48; refine Calls.mono HC.out ?_; rintro e W2 ⟨rfl, W', hR, hb, hk⟩)
  go_ret
  exact ⟨rfl, W', hR, hb, (Kp.of_new HB1.out).trans hk⟩

set_option maxRecDepth 10000 in
set_option maxHeartbeats 2000000 in
theorem jsync1 (p1 p2 d : Nat) (nm : ByteArray) (R : World → Prop) (w : World) (o1 : w.heap[p1]? = some (.cells #[dif d] 90 (0, 0))) (o2 : w.heap[p2]? = some (.cells #[.string nm] 9 (0, 0)))
    (hK : Calls Tryz.prog 212 #[.pointer (some ⟨d, 0, none⟩), .string nm] w fun e w' => e = .returned .nilIface ∧ R w') :
    Calls Tryz.prog 100 #[.pointer (some ⟨p1, 0, none⟩), .pointer (some ⟨p2, 0, none⟩)] w fun e w' => e = .returned .nilIface ∧ R w' := by
  have c1 : w.cell? ⟨p1, 0, none⟩ = some (dif d) := cell_obj o1
  have c2 : w.cell? ⟨p2, 0, none⟩ = some (.string nm) := cell_obj o2
  have HK : Hid (Calls Tryz.prog 212 #[.pointer (some ⟨d, 0, none⟩), .string nm] w fun e w' => e = .returned .nilIface ∧ R w') := hK
  clear hK o1 o2
  go_enter Tryz.func100, Tryz.ntmps100
  go_wp2_with (go_at_call 212; refine Calls.mono HK.out ?_; rintro e W2 ⟨rfl, hR⟩)
  go_ret
  exact ⟨rfl, hR⟩

set_option maxRecDepth 10000 in
set_option maxHeartbeats 2000000 in
theorem jsync (d : Nat) (nm : ByteArray) (F : Nat → Prop) (R : World → Prop) (w : World) (hF : ∀ k, F k → k < w.heap.size)
    (hK : ∀ W, Below w.heap.size w W → Calls Tryz.prog 212 #[.pointer (some ⟨d, 0, none⟩), .string nm] W fun e w' => e = .returned .nilIface ∧ Kp F W w' ∧ R w') :
    Calls Tryz.prog 61 #[dif d, .string nm] w fun e w'' => e = .returned .nilIface ∧ ∃ W', R W' ∧ Below W'.heap.size W' w'' ∧ Kp F w w'' := by
  have hmf := mkf
  have hb1 : Below w.heap.size w ((w.alloc (.cells #[dif d] 90)).alloc (.cells #[.string nm] 9)) := ((Below.refl _ _).alloc (Nat.le_refl _) _).alloc (by simp) _
  have o1 : ((w.alloc (.cells #[dif d] 90)).alloc (.cells #[.string nm] 9)).heap[w.heap.size]? = some (.cells #[dif d] 90 (0, 0)) := obj_alloc (obj_new _ _)
  have o2 : ((w.alloc (.cells #[dif d] 90)).alloc (.cells #[.string nm] 9)).heap[w.heap.size + 1]? = some (.cells #[.string nm] 9 (0, 0)) := by
    have := obj_new (w.alloc (.cells #[dif d] 90)) (.cells #[.string nm] 9)
    simpa using this
  have HC : Hid (Calls Tryz.prog 48 #[.func (.func 100) #[] #[.pointer (some ⟨w.heap.size, 0, none⟩), .pointer (some ⟨w.heap.size + 1, 0, none⟩)]] ((w.alloc (.cells #[dif d] 90)).alloc (.cells #[.string nm] 9)) fun e w'' => e = .returned .nilIface ∧ ∃ W', R W' ∧ Below W'.heap.size W' w'' ∧ Kp F ((w.alloc (.cells #[dif d] 90)).alloc (.cells #[.string nm] 9)) w'') :=
    jask_sync _ _ F R _ (fun k hk => Nat.lt_of_lt_of_le (hF k hk) hb1.size) fun W hW => jsync1 _ _ d nm _ W (below_obj hW (heap_lt o1) o1) (below_obj hW (heap_lt o2) o2) (hK W (hb1.trans (hW.mono hb1.size)))
  have HB1 : Hid (Below w.heap.size w ((w.alloc (.cells #[dif d] 90)).alloc (.cells #[.string nm] 9))) := hb1
  clear hK hF hb1 o1 o2
  go_enter Tryz.func61, Tryz.ntmps61
  go_wp2_with (go_at_call 48; refine Calls.mono HC.out ?_; rintro e W2 ⟨rfl, W', hR, hb, hk⟩)
  go_ret
  exact ⟨rfl, W', hR, hb, (Kp.of_new HB1.out).trans hk⟩

set_option maxRecDepth 10000 in
set_option maxHeartbeats 2000000 in
theorem jcut1 (p1 p2 p3 d n : Nat) (nm : ByteArray) (R : World → Prop) (w : World) (o1 : w.heap[p1]? = some (.cells #[dif d] 90 (0, 0))) (o2 : w.heap[p2]? = some (.cells #[.string nm] 9 (0, 0))) (o3 : w.heap[p3]? = some (.cells #[.int .i64 n] 3 (0, 0)))
    (hK : Calls Tryz.prog 207 #[.pointer (some ⟨d, 0, none⟩), .string nm, .int .i64 n] w fun e w' => e = .returned .nilIface ∧ R w') :
    Calls Tryz.prog 99 #[.pointer (some ⟨p1, 0, none⟩), .pointer (some ⟨p2, 0, none⟩), .pointer (some ⟨p3, 0, none⟩)] w fun e w' => e = .returned .nilIface ∧ R w' := by
  have c1 : w.cell? ⟨p1, 0, none⟩ = some (dif d) := cell_obj o1
  have c2 : w.cell? ⟨p2, 0, none⟩ = some (.string nm) := cell_obj o2
  have c3 : w.cell? ⟨p3, 0, none⟩ = some (.int .i64 n) := cell_obj o3
  have HK : Hid (Calls Tryz.prog 207 #[.pointer (some ⟨d, 0, none⟩), .string nm, .int .i64 n] w fun e w' => e = .returned .nilIface ∧ R w') := hK
  clear hK o1 o2 o3
  go_enter Tryz.func99, Tryz.ntmps99
  go_wp2_with (go_at_call 207; refine Calls.mono HK.out ?_; rintro e W2 ⟨rfl, hR⟩)
  go_ret
  exact ⟨rfl, hR⟩

set_option maxRecDepth 10000 in
set_option maxHeartbeats 2000000 in
theorem jcut (d n : Nat) (nm : ByteArray) (F : Nat → Prop) (R : World → Prop) (w : World) (hF : ∀ k, F k → k < w.heap.size)
    (hK : ∀ W, Below w.heap.size w W → Calls Tryz.prog 207 #[.pointer (some ⟨d, 0, none⟩), .string nm, .int .i64 n] W fun e w' => e = .returned .nilIface ∧ Kp F W w' ∧ R w') :
    Calls Tryz.prog 60 #[dif d, .string nm, .int .i64 n] w fun e w'' => e = .returned .nilIface ∧ ∃ W', R W' ∧ Below W'.heap.size W' w'' ∧ Kp F w w'' := by
  have hmf := mkf
  have hb1 : Below w.heap.size w (((w.alloc (.cells #[dif d] 90)).alloc (.cells #[.string nm] 9)).alloc (.cells #[.int .i64 n] 3)) := (((Below.refl _ _).alloc (Nat.le_refl _) _).alloc (by simp) _).alloc (by simp; omega) _
  have o1 : (((w.alloc (.cells #[dif d] 90)).alloc (.cells #[.string nm] 9)).alloc (.cells #[.int .i64 n] 3)).heap[w.heap.size]? = some (.cells #[dif d] 90 (0, 0)) := obj_alloc (obj_alloc (obj_new _ _))
  have o2 : (((w.alloc (.cells #[dif d] 90)).alloc (.cells #[.string nm] 9)).alloc (.cells #[.int .i64 n] 3)).heap[w.heap.size + 1]? = some (.cells #[.string nm] 9 (0, 0)) := by
    have := obj_new (w.alloc (.cells #[dif d] 90)) (.cells #[.string nm] 9)
    exact obj_alloc (by simpa using this)
  have o3 : (((w.alloc (.cells #[dif d] 90)).alloc (.cells #[.string nm] 9)).alloc (.cells #[.int .i64 n] 3)).heap[w.heap.size + 2]? = some (.cells #[.int .i64 n] 3 (0, 0)) := by
    have := obj_new ((w.alloc (.cells #[dif d] 90)).alloc (.cells #[.string nm] 9)) (.cells #[.int .i64 n] 3)
    simpa using this
  have HC : Hid (Calls Tryz.prog 48 #[.func (.func 99) #[] #[.pointer (some ⟨w.heap.size, 0, none⟩), .pointer (some ⟨w.heap.size + 1, 0, none⟩), .pointer (some ⟨w.heap.size + 2, 0, none⟩)]] (((w.alloc (.cells #[dif d] 90)).alloc (.cells #[.string nm] 9)).alloc (.cells #[.int .i64 n] 3)) fun e w'' => e = .returned .nilIface ∧ ∃ W', R W' ∧ Below W'.heap.size W' w'' ∧ Kp F (((w.alloc (.cells #[dif d] 90)).alloc (.cells #[.string nm] 9)).alloc (.cells #[.int .i64 n] 3)) w'') :=
    jask_cut _ _ _ F R _ (fun k hk => Nat.lt_of_lt_of_le (hF k hk) hb1.size) fun W hW => jcut1 _ _ _ d n nm _ W (below_obj hW (heap_lt o1) o1) (below_obj hW (heap_lt o2) o2) (below_obj hW (heap_lt o3) o3) (hK W (hb1.trans (hW.mono hb1.size)))
  have HB1 : Hid (Below w.heap.size w (((w.alloc (.cells #[dif d] 90)).alloc (.cells #[.string nm] 9)).alloc (.cells #[.int .i64 n] 3))) := hb1
  clear hK hF hb1 o1 o2 o3
  go_enter Tryz.func60, Tryz.ntmps60
  go_wp2_with (go_at_call 48; refine Calls.mono HC.out ?_; rintro e W2 ⟨rfl, W', hR, hb, hk⟩)
  go_ret
  exact ⟨rfl, W', hR, hb, (Kp.of_new HB1.out).trans hk⟩

/-- A box that is written. -/
theorem box_set {W : World} {k : Nat} {a v : Value} {t : TypeId} (h : W.heap[k]? = some (.cells #[a] t (0, 0))) : (W.setCell ⟨k, 0, none⟩ v).heap[k]? = some (.cells #[v] t (0, 0)) := by
  rw [obj_setCell_same h]; rfl

set_option maxRecDepth 10000 in
set_option maxHeartbeats 2000000 in
theorem jread1 (p1 p2 p3 d : Nat) (nm : ByteArray) (v : Value) (L : List DF) (c s x : Int) (i : Nat) (f : DF) (w : World) (h : Dk w d v L c s x) (hat : At L nm i f) (hsz : f.now.size ≤ 1000000000000)
    (o1 : w.heap[p1]? = some (.cells #[dif d] 90 (0, 0))) (o2 : w.heap[p2]? = some (.cells #[.string nm] 9 (0, 0))) (o3 : w.heap[p3]? = some (.cells #[.slice none 0 0] 59 (0, 0))) :
    Calls Tryz.prog 92 #[.pointer (some ⟨p1, 0, none⟩), .pointer (some ⟨p2, 0, none⟩), .pointer (some ⟨p3, 0, none⟩)] w fun e w' => e = .returned .nilIface ∧ Kp (fun k => k = d ∨ k = p3) w w' ∧
      ∃ v' g', BS w' v' g' f.now ∧ w.heap.size ≤ g' ∧ Dk w' d v L (wrap64 (c + 1)) s x ∧ w'.heap[p3]? = some (.cells #[v'] 59 (0, 0)) := by
  have c1 : w.cell? ⟨p1, 0, none⟩ = some (dif d) := cell_obj o1
  have c2 : w.cell? ⟨p2, 0, none⟩ = some (.string nm) := cell_obj o2
  have HR := dread d v L c s x nm i f w h hat hsz
  have HK : Hid (Calls Tryz.prog 210 #[.pointer (some ⟨d, 0, none⟩), .string nm] w fun e w' => ∃ v' g', e = .returned (.tuple #[v', .nilIface]) ∧ BS w' v' g' f.now ∧ w.heap.size ≤ g' ∧ Dk w' d v L (wrap64 (c + 1)) s x ∧ Kp (· = d) w w') := HR
  have HD3 : Hid (p3 ≠ d) := tag_ne o3 h.obj (by decide)
  have HO3 : Hid (w.heap[p3]? = some (.cells #[.slice none 0 0] 59 (0, 0))) := o3
  clear HR h hat o1 o2 o3
  go_enter Tryz.func92, Tryz.ntmps92
  go_wp2_with (go_at_call 210; refine Calls.mono HK.out ?_; rintro e W2 ⟨v', g', rfl, hbs, hg, hd, hk⟩; obtain ⟨o', k', rfl, -⟩ := hbs.shape; have ob := hk.obj HD3.out HO3.out; have c3 : W2.cell? ⟨p3, 0, none⟩ = some (.slice none 0 0) := cell_obj ob; have f3 : W2.frozen? ⟨p3, 0, none⟩ = false := frozen_obj ob; have Q1 : Hid (BS W2 (.slice (some ⟨g', o', none⟩) f.now.size k') g' f.now ∧ w.heap.size ≤ g' ∧ Dk W2 d v L (wrap64 (c + 1)) s x ∧ Kp (· = d) w W2 ∧ W2.heap[p3]? = some (.cells #[.slice none 0 0] 59 (0, 0))) := ⟨hbs, hg, hd, hk, ob⟩; clear hbs hg hd hk ob)
  go_ret
  obtain ⟨hbs, hg, hd, hk, ob⟩ := Q1.out
  have hk3 : Kp (· = p3) W2 (W2.setCell ⟨p3, 0, none⟩ (.slice (some ⟨g', o', none⟩) f.now.size k')) := (Kp.refl (· = p3) W2).setCell (a := ⟨p3, 0, none⟩) (fun _ => rfl) _
  refine ⟨rfl, (hk.mono fun _ _ e => Or.inl e).trans (hk3.mono fun _ _ e => Or.inr e), _, g', ?_, hg, ?_, box_set ob⟩
  · obtain ⟨C, fr, t⟩ := hbs.tag
    exact hbs.on hk3 (tag_ne t ob (by decide))
  · refine hd.kp hk3 (fun k hk => ?_)
    rcases hk with rfl | hk | ⟨e, he, hk⟩
    · exact tag_ne hd.obj ob (by decide)
    · obtain ⟨C, hC⟩ := row_tag hd.row hk
      exact tag_ne hC ob (by decide)
    · have hfi := hd.files e he
      obtain ⟨C1, r1, t1⟩ := hfi.sb.tag
      obtain ⟨C2, r2, t2⟩ := hfi.nb.tag
      rcases hk with rfl | rfl | rfl
      · exact tag_ne hfi.obj ob (by decide)
      · exact tag_ne t1 ob (by decide)
      · exact tag_ne t2 ob (by decide)
end Go.Proofs.YtploagfjajlloaaGreatDoor
namespace Go.Proofs.YtploagfjajlloaaGreatDoor
open Go.RowKit Jr

set_option maxRecDepth 10000 in
set_option maxHeartbeats 2000000 in
theorem jread (d : Nat) (nm : ByteArray) (v : Value) (L : List DF) (c s x : Int) (i : Nat) (f : DF) (w : World) (h : Dk w d v L c s x) (hat : At L nm i f) (hsz : f.now.size ≤ 1000000000000) :
    Calls Tryz.prog 56 #[dif d, .string nm] w fun e w'' => ∃ v' g', e = .returned (.tuple #[v', .nilIface]) ∧ BS w'' v' g' f.now ∧ w.heap.size ≤ g' ∧ Dk w'' d v L (wrap64 (c + 1)) s x ∧ Kp (· = d) w w'' := by
  have hmf := mkf
  obtain ⟨W3, hW3⟩ : ∃ W3, W3 = (((w.alloc (.cells #[dif d] 90)).alloc (.cells #[.string nm] 9)).alloc (.cells #[.slice none 0 0] 59)) := ⟨_, rfl⟩
  have hb1 : Below w.heap.size w W3 := by rw [hW3]; exact (((Below.refl _ _).alloc (Nat.le_refl _) _).alloc (by simp) _).alloc (by simp; omega) _
  have o1 : W3.heap[w.heap.size]? = some (.cells #[dif d] 90 (0, 0)) := by rw [hW3]; exact obj_alloc (obj_alloc (obj_new _ _))
  have o2 : W3.heap[w.heap.size + 1]? = some (.cells #[.string nm] 9 (0, 0)) := by
    have := obj_new (w.alloc (.cells #[dif d] 90)) (.cells #[.string nm] 9)
    rw [hW3]; exact obj_alloc (by simpa using this)
  have o3 : W3.heap[w.heap.size + 2]? = some (.cells #[.slice none 0 0] 59 (0, 0)) := by
    have := obj_new ((w.alloc (.cells #[dif d] 90)).alloc (.cells #[.string nm] 9)) (.cells #[.slice none 0 0] 59)
    rw [hW3]; simpa using this
  have hd3 : Dk W3 d v L c s x := h.new hb1
  have HC : Hid (Calls Tryz.prog 48 #[.func (.func 92) #[] #[.pointer (some ⟨w.heap.size, 0, none⟩), .pointer (some ⟨w.heap.size + 1, 0, none⟩), .pointer (some ⟨w.heap.size + 2, 0, none⟩)]] W3 fun e w'' => e = .returned .nilIface ∧ ∃ W', (∃ v' g', BS W' v' g' f.now ∧ w.heap.size ≤ g' ∧ Dk W' d v L (wrap64 (c + 1)) s x ∧ W'.heap[w.heap.size + 2]? = some (.cells #[v'] 59 (0, 0))) ∧ Below W'.heap.size W' w'' ∧ Kp (fun k => k = d ∨ k = w.heap.size + 2) W3 w'') := by
    refine jask_read _ _ _ (fun k => k = d ∨ k = w.heap.size + 2) (fun W' => ∃ v' g', BS W' v' g' f.now ∧ w.heap.size ≤ g' ∧ Dk W' d v L (wrap64 (c + 1)) s x ∧ W'.heap[w.heap.size + 2]? = some (.cells #[v'] 59 (0, 0))) _ (fun k hk => ?_) fun W hW => ?_
    · rcases hk with rfl | rfl
      · exact heap_lt hd3.obj
      · exact heap_lt o3
    · refine Calls.mono (jread1 _ _ _ d nm v L c s x i f W (hd3.new hW) hat hsz (below_obj hW (heap_lt o1) o1) (below_obj hW (heap_lt o2) o2) (below_obj hW (heap_lt o3) o3)) ?_
      rintro e w' ⟨rfl, hk, v', g', hbs, hg, hd, ho⟩
      exact ⟨rfl, hk, v', g', hbs, Nat.le_trans hb1.size (Nat.le_trans hW.size hg), hd, ho⟩
  have HB1 : Hid (Below w.heap.size w W3) := hb1
  have hwd : d < w.heap.size := heap_lt h.obj
  clear hb1 o1 o2 o3 hd3 h hat
  go_enter Tryz.func56, Tryz.ntmps56
  rw [hW3] at HC HB1
  clear hW3
  go_wp2_with (go_at_call 48; refine Calls.mono HC.out ?_; rintro e W2 ⟨rfl, W', ⟨v', g', hbs, hg, hd, ho⟩, hb, hk⟩; obtain ⟨o', k', rfl, -⟩ := hbs.shape; have c3 : W2.cell? ⟨w.heap.size + 2, 0, none⟩ = some (.slice (some ⟨g', o', none⟩) f.now.size k') := cell_obj (below_obj hb (heap_lt ho) ho); have Q1 : Hid (BS W2 (.slice (some ⟨g', o', none⟩) f.now.size k') g' f.now ∧ w.heap.size ≤ g' ∧ Dk W2 d v L (wrap64 (c + 1)) s x) := ⟨hbs.on' hb hbs.lt, hg, hd.new hb⟩; clear hbs hg hd ho hb)
  obtain ⟨q1, q2, q3⟩ := Q1.out
  refine bodyPost_ret (v := .tuple #[.slice (some ⟨g', o', none⟩) f.now.size k', .nilIface]) (by simp [results, Tryz.results56, go_sem]) rfl ?_
  exact ⟨_, g', rfl, q1, q2, q3, (Kp.of_new HB1.out).andThen hk fun k hk0 hk1 => by rcases hk1 with h | h <;> omega⟩

set_option maxRecDepth 10000 in
set_option maxHeartbeats 2000000 in
theorem jnames1 (p1 p3 d : Nat) (v : Value) (L : List DF) (c s x : Int) (w : World) (h : Dk w d v L c s x) (hL : L.length ≤ 1073741824)
    (o1 : w.heap[p1]? = some (.cells #[dif d] 90 (0, 0))) (o3 : w.heap[p3]? = some (.cells #[.slice none 0 0] 91 (0, 0))) :
    Calls Tryz.prog 49 #[.pointer (some ⟨p1, 0, none⟩), .pointer (some ⟨p3, 0, none⟩)] w fun e w' => e = .returned .nilIface ∧ Kp (fun k => k = d ∨ k = p3) w w' ∧
      ∃ v', w'.ownsRow w.heap.size 9 1 v' L.length (L.reverse.map fun f => .string f.name) ∧ Dk w' d v L (wrap64 (c + 1)) s x ∧ w'.heap[p3]? = some (.cells #[v'] 91 (0, 0)) := by
  have c1 : w.cell? ⟨p1, 0, none⟩ = some (dif d) := cell_obj o1
  have HR := dnames d v L c s x w h hL
  have HK : Hid (Calls Tryz.prog 209 #[.pointer (some ⟨d, 0, none⟩)] w fun e w' => ∃ v', e = .returned (.tuple #[v', .nilIface]) ∧ w'.ownsRow w.heap.size 9 1 v' L.length (L.reverse.map fun f => .string f.name) ∧ Dk w' d v L (wrap64 (c + 1)) s x ∧ Kp (· = d) w w') := HR
  have HD3 : Hid (p3 ≠ d) := tag_ne o3 h.obj (by decide)
  have HO3 : Hid (w.heap[p3]? = some (.cells #[.slice none 0 0] 91 (0, 0))) := o3
  clear HR h o1 o3
  go_enter Tryz.func49, Tryz.ntmps49
  go_wp2_with (go_at_call 209; refine Calls.mono HK.out ?_; rintro e W2 ⟨v', rfl, hbs, hd, hk⟩; obtain ⟨p', k', rfl, -⟩ := row_shape hbs; have ob := hk.obj HD3.out HO3.out; have c3 : W2.cell? ⟨p3, 0, none⟩ = some (.slice none 0 0) := cell_obj ob; have f3 : W2.frozen? ⟨p3, 0, none⟩ = false := frozen_obj ob; have Q1 : Hid (W2.ownsRow w.heap.size 9 1 (.slice p' L.length k') L.length (L.reverse.map fun f => .string f.name) ∧ Dk W2 d v L (wrap64 (c + 1)) s x ∧ Kp (· = d) w W2 ∧ W2.heap[p3]? = some (.cells #[.slice none 0 0] 91 (0, 0))) := ⟨hbs, hd, hk, ob⟩; clear hbs hd hk ob)
  go_ret
  obtain ⟨hbs, hd, hk, ob⟩ := Q1.out
  have hk3 : Kp (· = p3) W2 (W2.setCell ⟨p3, 0, none⟩ (.slice p' L.length k')) := (Kp.refl (· = p3) W2).setCell (a := ⟨p3, 0, none⟩) (fun _ => rfl) _
  refine ⟨rfl, (hk.mono fun _ _ e => Or.inl e).trans (hk3.mono fun _ _ e => Or.inr e), _, ?_, ?_, box_set ob⟩
  · exact row_on hbs hk3 fun k e => by
      obtain ⟨C, hC⟩ := row_tag hbs e
      exact tag_ne hC ob (by decide)
  · refine hd.kp hk3 (fun k hk => ?_)
    rcases hk with rfl | hk | ⟨e, he, hk⟩
    · exact tag_ne hd.obj ob (by decide)
    · obtain ⟨C, hC⟩ := row_tag hd.row hk
      exact tag_ne hC ob (by decide)
    · have hfi := hd.files e he
      obtain ⟨C1, r1, t1⟩ := hfi.sb.tag
      obtain ⟨C2, r2, t2⟩ := hfi.nb.tag
      rcases hk with rfl | rfl | rfl
      · exact tag_ne hfi.obj ob (by decide)
      · exact tag_ne t1 ob (by decide)
      · exact tag_ne t2 ob (by decide)

set_option maxRecDepth 10000 in
set_option maxHeartbeats 2000000 in
theorem jnames (d : Nat) (v : Value) (L : List DF) (c s x : Int) (w : World) (h : Dk w d v L c s x) (hL : L.length ≤ 1073741824) :
    Calls Tryz.prog 33 #[dif d] w fun e w'' => ∃ v', e = .returned (.tuple #[v', .nilIface]) ∧ w''.ownsRow w.heap.size 9 1 v' L.length (L.reverse.map fun f => .string f.name) ∧ Dk w'' d v L (wrap64 (c + 1)) s x ∧ Kp (· = d) w w'' := by
  have hmf := mkf
  obtain ⟨W3, hW3⟩ : ∃ W3, W3 = ((w.alloc (.cells #[dif d] 90)).alloc (.cells #[.slice none 0 0] 91)) := ⟨_, rfl⟩
  have hb1 : Below w.heap.size w W3 := by rw [hW3]; exact ((Below.refl _ _).alloc (Nat.le_refl _) _).alloc (by simp) _
  have o1 : W3.heap[w.heap.size]? = some (.cells #[dif d] 90 (0, 0)) := by rw [hW3]; exact obj_alloc (obj_new _ _)
  have o3 : W3.heap[w.heap.size + 1]? = some (.cells #[.slice none 0 0] 91 (0, 0)) := by
    have := obj_new (w.alloc (.cells #[dif d] 90)) (.cells #[.slice none 0 0] 91)
    rw [hW3]; simpa using this
  have hd3 : Dk W3 d v L c s x := h.new hb1
  have HC : Hid (Calls Tryz.prog 48 #[.func (.func 49) #[] #[.pointer (some ⟨w.heap.size, 0, none⟩), .pointer (some ⟨w.heap.size + 1, 0, none⟩)]] W3 fun e w'' => e = .returned .nilIface ∧ ∃ W', (∃ v', W'.ownsRow w.heap.size 9 1 v' L.length (L.reverse.map fun f => .string f.name) ∧ Dk W' d v L (wrap64 (c + 1)) s x ∧ W'.heap[w.heap.size + 1]? = some (.cells #[v'] 91 (0, 0))) ∧ Below W'.heap.size W' w'' ∧ Kp (fun k => k = d ∨ k = w.heap.size + 1) W3 w'') := by
    refine jask_names _ _ (fun k => k = d ∨ k = w.heap.size + 1) (fun W' => ∃ v', W'.ownsRow w.heap.size 9 1 v' L.length (L.reverse.map fun f => .string f.name) ∧ Dk W' d v L (wrap64 (c + 1)) s x ∧ W'.heap[w.heap.size + 1]? = some (.cells #[v'] 91 (0, 0))) _ (fun k hk => ?_) fun W hW => ?_
    · rcases hk with rfl | rfl
      · exact heap_lt hd3.obj
      · exact heap_lt o3
    · refine Calls.mono (jnames1 _ _ d v L c s x W (hd3.new hW) hL (below_obj hW (heap_lt o1) o1) (below_obj hW (heap_lt o3) o3)) ?_
      rintro e w' ⟨rfl, hk, v', hbs, hd, ho⟩
      exact ⟨rfl, hk, v', row_base hbs (Nat.le_trans hb1.size hW.size), hd, ho⟩
  have HB1 : Hid (Below w.heap.size w W3) := hb1
  have hwd : d < w.heap.size := heap_lt h.obj
  clear hb1 o1 o3 hd3 h
  go_enter Tryz.func33, Tryz.ntmps33
  rw [hW3] at HC HB1
  clear hW3
  go_wp2_with (go_at_call 48; refine Calls.mono HC.out ?_; rintro e W2 ⟨rfl, W', ⟨v', hbs, hd, ho⟩, hb, hk⟩; obtain ⟨o', k', rfl, -⟩ := row_shape hbs; have c3 : W2.cell? ⟨w.heap.size + 1, 0, none⟩ = some (.slice o' L.length k') := cell_obj (below_obj hb (heap_lt ho) ho); have Q1 : Hid (W2.ownsRow w.heap.size 9 1 (.slice o' L.length k') L.length (L.reverse.map fun f => .string f.name) ∧ Dk W2 d v L (wrap64 (c + 1)) s x) := ⟨row_on' hbs hb (fun k e => (hbs.lt k e).2), hd.new hb⟩; clear hbs hd ho hb)
  obtain ⟨q1, q2⟩ := Q1.out
  refine bodyPost_ret (v := .tuple #[.slice o' L.length k', .nilIface]) (by simp [results, Tryz.results33, go_sem]) rfl ?_
  exact ⟨_, rfl, q1, q2, (Kp.of_new HB1.out).andThen hk fun k hk0 hk1 => by rcases hk1 with h | h <;> omega⟩
end Go.Proofs.YtploagfjajlloaaGreatDoor
