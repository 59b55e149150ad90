import Derived.Test.YtploagfjajlloaaGreatDoorDkY
import Derived.Test.YtploagfjajlloaaGreatDoorSen
import Derived.Defers
import Derived.Recover
import Derived.Laws.Pointers
namespace Go.Proofs.YtploagfjajlloaaGreatDoor
open Go.RowKit Jr

theorem catch_idle (p : Addr) (w : World) :
    CallsD Tryz.prog 84 #[.pointer (some p)] .returning w fun e u' w' => e = .returned (.tuple #[]) ∧ u' = .returning ∧ w' = w := by
  refine callsD_of_wpS Tryz.func84 rfl fun c₀ cs hu => ?_
  apply wpS_seq
  apply wpS_region
  simp [wpOpsS, go_sem, recoverD, hu, Tryz.ntmps84, Exit.thenS]
  refine wpS_cond (t := false) (by simp [Act.eval, Array.replicate]) ?_
  simp only [Bool.false_eq_true, if_false]
  refine wpS_of_wp (wp_skip ?_)
  cases c₀
  simp_all [bodyPostS, results, Tryz.results84]
theorem setCell_still {W : World} {k i : Nat} {c : Array Value} {t : TypeId} {fr : Nat × Nat} {v : Value} (h : W.heap[k]? = some (.cells c t fr)) (hv : c[i]? = some v) (B : Nat) : Below B W (W.setCell ⟨k, i, none⟩ v) := by
  refine ⟨rfl, rfl, rfl, by rw [size_setCell]; exact Nat.le_refl _, fun j _ => ?_⟩
  by_cases e : j = k
  · subst e
    rw [obj_setCell_same h, h]
    congr 2
    apply Array.ext_getElem?
    intro q
    rw [Array.getElem?_setIfInBounds]
    split
    · rename_i e; subst e
      have := (Array.getElem?_eq_some_iff.1 hv).1
      rw [if_pos this, hv]
    · rfl
  · exact obj_setCell_other e

set_option maxRecDepth 10000 in
set_option maxHeartbeats 2000000 in
theorem jask_names (p1 p2 : Nat) (F : Nat → Prop) (R : World → Prop) (w : World) (hF : ∀ k, F k → k < w.heap.size)
    (hK : ∀ W, Below w.heap.size w W → Calls Tryz.prog 49 #[.pointer (some ⟨p1, 0, none⟩), .pointer (some ⟨p2, 0, none⟩)] W fun e w' => e = .returned .nilIface ∧ Kp F W w' ∧ R w') :
    Calls Tryz.prog 48 #[.func (.func 49) #[] #[.pointer (some ⟨p1, 0, none⟩), .pointer (some ⟨p2, 0, none⟩)]] w fun e w'' => e = .returned .nilIface ∧ ∃ W', R W' ∧ Below W'.heap.size W' w'' ∧ Kp F w w'' := by
  have hmf := mkf
  have hb1 : Below w.heap.size w (w.alloc (.cells #[.nilIface] 54)) := (Below.refl _ _).alloc (Nat.le_refl _) _
  have HK : Hid (Calls Tryz.prog 49 #[.pointer (some ⟨p1, 0, none⟩), .pointer (some ⟨p2, 0, none⟩)] (w.alloc (.cells #[.nilIface] 54)) fun e w' => e = .returned .nilIface ∧ Kp F (w.alloc (.cells #[.nilIface] 54)) w' ∧ R w') := hK _ hb1
  have HF : Hid (∀ k, F k → k < w.heap.size) := hF
  have HB1 : Hid (Below w.heap.size w (w.alloc (.cells #[.nilIface] 54))) := hb1
  clear hK hF hb1
  go_enter_defers Tryz.func48, Tryz.ntmps48
  go_upto_region 3 with (go_at_call 49; refine Calls.mono HK.out ?_; rintro e W2 ⟨rfl, hk2, hR⟩)
  have ob : W2.heap[w.heap.size]? = some (.cells #[.nilIface] 54 (0, 0)) := hk2.obj (fun h => by have := HF.out _ h; omega) (obj_new _ _)
  have c0 : W2.cell? ⟨w.heap.size, 0, none⟩ = some .nilIface := cell_obj ob
  have f0 : W2.frozen? ⟨w.heap.size, 0, none⟩ = false := frozen_obj ob
  have HS : Hid (Below W2.heap.size W2 (W2.setCell ⟨w.heap.size, 0, none⟩ .nilIface)) := setCell_still ob rfl _
  have HKp : Hid (Kp F w (W2.setCell ⟨w.heap.size, 0, none⟩ .nilIface)) := ((Kp.of_new HB1.out).trans hk2).trans (Kp.of_new HS.out)
  have cS : (W2.setCell ⟨w.heap.size, 0, none⟩ .nilIface).cell? ⟨w.heap.size, 0, none⟩ = some .nilIface := (HS.out.cell (p := ⟨w.heap.size, 0, none⟩) (cell_lt c0)).trans c0
  have HR : Hid (R W2) := hR
  clear hk2 hR ob
  go_wp2
  refine leaves_cons (f := 84) (args := #[.pointer (some ⟨w.heap.size, 0, none⟩)]) (by simp) (by simp [go_sem]) ?_
  refine (catch_idle ⟨w.heap.size, 0, none⟩ _).mono ?_
  rintro e u' w'' ⟨rfl, rfl, rfl⟩
  refine ⟨.nilIface, by simp [results, Tryz.results48, go_sem, cS], rfl, W2, HR.out, HS.out, HKp.out⟩

set_option maxRecDepth 10000 in
set_option maxHeartbeats 2000000 in
theorem jask_read (p1 p2 p3 : Nat) (F : Nat → Prop) (R : World → Prop) (w : World) (hF : ∀ k, F k → k < w.heap.size)
    (hK : ∀ W, Below w.heap.size w W → Calls Tryz.prog 92 #[.pointer (some ⟨p1, 0, none⟩), .pointer (some ⟨p2, 0, none⟩), .pointer (some ⟨p3, 0, none⟩)] W fun e w' => e = .returned .nilIface ∧ Kp F W w' ∧ R w') :
    Calls Tryz.prog 48 #[.func (.func 92) #[] #[.pointer (some ⟨p1, 0, none⟩), .pointer (some ⟨p2, 0, none⟩), .pointer (some ⟨p3, 0, none⟩)]] w fun e w'' => e = .returned .nilIface ∧ ∃ W', R W' ∧ Below W'.heap.size W' w'' ∧ Kp F w w'' := by
  have hmf := mkf
  have hb1 : Below w.heap.size w (w.alloc (.cells #[.nilIface] 54)) := (Below.refl _ _).alloc (Nat.le_refl _) _
  have HK : Hid (Calls Tryz.prog 92 #[.pointer (some ⟨p1, 0, none⟩), .pointer (some ⟨p2, 0, none⟩), .pointer (some ⟨p3, 0, none⟩)] (w.alloc (.cells #[.nilIface] 54)) fun e w' => e = .returned .nilIface ∧ Kp F (w.alloc (.cells #[.nilIface] 54)) w' ∧ R w') := hK _ hb1
  have HF : Hid (∀ k, F k → k < w.heap.size) := hF
  have HB1 : Hid (Below w.heap.size w (w.alloc (.cells #[.nilIface] 54))) := hb1
  clear hK hF hb1
  go_enter_defers Tryz.func48, Tryz.ntmps48
  go_upto_region 3 with (go_at_call 92; refine Calls.mono HK.out ?_; rintro e W2 ⟨rfl, hk2, hR⟩)
  have ob : W2.heap[w.heap.size]? = some (.cells #[.nilIface] 54 (0, 0)) := hk2.obj (fun h => by have := HF.out _ h; omega) (obj_new _ _)
  have c0 : W2.cell? ⟨w.heap.size, 0, none⟩ = some .nilIface := cell_obj ob
  have f0 : W2.frozen? ⟨w.heap.size, 0, none⟩ = false := frozen_obj ob
  have HS : Hid (Below W2.heap.size W2 (W2.setCell ⟨w.heap.size, 0, none⟩ .nilIface)) := setCell_still ob rfl _
  have HKp : Hid (Kp F w (W2.setCell ⟨w.heap.size, 0, none⟩ .nilIface)) := ((Kp.of_new HB1.out).trans hk2).trans (Kp.of_new HS.out)
  have cS : (W2.setCell ⟨w.heap.size, 0, none⟩ .nilIface).cell? ⟨w.heap.size, 0, none⟩ = some .nilIface := (HS.out.cell (p := ⟨w.heap.size, 0, none⟩) (cell_lt c0)).trans c0
  have HR : Hid (R W2) := hR
  clear hk2 hR ob
  go_wp2
  refine leaves_cons (f := 84) (args := #[.pointer (some ⟨w.heap.size, 0, none⟩)]) (by simp) (by simp [go_sem]) ?_
  refine (catch_idle ⟨w.heap.size, 0, none⟩ _).mono ?_
  rintro e u' w'' ⟨rfl, rfl, rfl⟩
  refine ⟨.nilIface, by simp [results, Tryz.results48, go_sem, cS], rfl, W2, HR.out, HS.out, HKp.out⟩

set_option maxRecDepth 10000 in
set_option maxHeartbeats 2000000 in
theorem jask_remove (p1 p2 : Nat) (F : Nat → Prop) (R : World → Prop) (w : World) (hF : ∀ k, F k → k < w.heap.size)
    (hK : ∀ W, Below w.heap.size w W → Calls Tryz.prog 98 #[.pointer (some ⟨p1, 0, none⟩), .pointer (some ⟨p2, 0, none⟩)] W fun e w' => e = .returned .nilIface ∧ Kp F W w' ∧ R w') :
    Calls Tryz.prog 48 #[.func (.func 98) #[] #[.pointer (some ⟨p1, 0, none⟩), .pointer (some ⟨p2, 0, none⟩)]] w fun e w'' => e = .returned .nilIface ∧ ∃ W', R W' ∧ Below W'.heap.size W' w'' ∧ Kp F w w'' := by
  have hmf := mkf
  have hb1 : Below w.heap.size w (w.alloc (.cells #[.nilIface] 54)) := (Below.refl _ _).alloc (Nat.le_refl _) _
  have HK : Hid (Calls Tryz.prog 98 #[.pointer (some ⟨p1, 0, none⟩), .pointer (some ⟨p2, 0, none⟩)] (w.alloc (.cells #[.nilIface] 54)) fun e w' => e = .returned .nilIface ∧ Kp F (w.alloc (.cells #[.nilIface] 54)) w' ∧ R w') := hK _ hb1
  have HF : Hid (∀ k, F k → k < w.heap.size) := hF
  have HB1 : Hid (Below w.heap.size w (w.alloc (.cells #[.nilIface] 54))) := hb1
  clear hK hF hb1
  go_enter_defers Tryz.func48, Tryz.ntmps48
  go_upto_region 3 with (go_at_call 98; refine Calls.mono HK.out ?_; rintro e W2 ⟨rfl, hk2, hR⟩)
  have ob : W2.heap[w.heap.size]? = some (.cells #[.nilIface] 54 (0, 0)) := hk2.obj (fun h => by have := HF.out _ h; omega) (obj_new _ _)
  have c0 : W2.cell? ⟨w.heap.size, 0, none⟩ = some .nilIface := cell_obj ob
  have f0 : W2.frozen? ⟨w.heap.size, 0, none⟩ = false := frozen_obj ob
  have HS : Hid (Below W2.heap.size W2 (W2.setCell ⟨w.heap.size, 0, none⟩ .nilIface)) := setCell_still ob rfl _
  have HKp : Hid (Kp F w (W2.setCell ⟨w.heap.size, 0, none⟩ .nilIface)) := ((Kp.of_new HB1.out).trans hk2).trans (Kp.of_new HS.out)
  have cS : (W2.setCell ⟨w.heap.size, 0, none⟩ .nilIface).cell? ⟨w.heap.size, 0, none⟩ = some .nilIface := (HS.out.cell (p := ⟨w.heap.size, 0, none⟩) (cell_lt c0)).trans c0
  have HR : Hid (R W2) := hR
  clear hk2 hR ob
  go_wp2
  refine leaves_cons (f := 84) (args := #[.pointer (some ⟨w.heap.size, 0, none⟩)]) (by simp) (by simp [go_sem]) ?_
  refine (catch_idle ⟨w.heap.size, 0, none⟩ _).mono ?_
  rintro e u' w'' ⟨rfl, rfl, rfl⟩
  refine ⟨.nilIface, by simp [results, Tryz.results48, go_sem, cS], rfl, W2, HR.out, HS.out, HKp.out⟩

set_option maxRecDepth 10000 in
set_option maxHeartbeats 2000000 in
theorem jask_cut (p1 p2 p3 : Nat) (F : Nat → Prop) (R : World → Prop) (w : World) (hF : ∀ k, F k → k < w.heap.size)
    (hK : ∀ W, Below w.heap.size w W → Calls Tryz.prog 99 #[.pointer (some ⟨p1, 0, none⟩), .pointer (some ⟨p2, 0, none⟩), .pointer (some ⟨p3, 0, none⟩)] W fun e w' => e = .returned .nilIface ∧ Kp F W w' ∧ R w') :
    Calls Tryz.prog 48 #[.func (.func 99) #[] #[.pointer (some ⟨p1, 0, none⟩), .pointer (some ⟨p2, 0, none⟩), .pointer (some ⟨p3, 0, none⟩)]] w fun e w'' => e = .returned .nilIface ∧ ∃ W', R W' ∧ Below W'.heap.size W' w'' ∧ Kp F w w'' := by
  have hmf := mkf
  have hb1 : Below w.heap.size w (w.alloc (.cells #[.nilIface] 54)) := (Below.refl _ _).alloc (Nat.le_refl _) _
  have HK : Hid (Calls Tryz.prog 99 #[.pointer (some ⟨p1, 0, none⟩), .pointer (some ⟨p2, 0, none⟩), .pointer (some ⟨p3, 0, none⟩)] (w.alloc (.cells #[.nilIface] 54)) fun e w' => e = .returned .nilIface ∧ Kp F (w.alloc (.cells #[.nilIface] 54)) w' ∧ R w') := hK _ hb1
  have HF : Hid (∀ k, F k → k < w.heap.size) := hF
  have HB1 : Hid (Below w.heap.size w (w.alloc (.cells #[.nilIface] 54))) := hb1
  clear hK hF hb1
  go_enter_defers Tryz.func48, Tryz.ntmps48
  go_upto_region 3 with (go_at_call 99; refine Calls.mono HK.out ?_; rintro e W2 ⟨rfl, hk2, hR⟩)
  have ob : W2.heap[w.heap.size]? = some (.cells #[.nilIface] 54 (0, 0)) := hk2.obj (fun h => by have := HF.out _ h; omega) (obj_new _ _)
  have c0 : W2.cell? ⟨w.heap.size, 0, none⟩ = some .nilIface := cell_obj ob
  have f0 : W2.frozen? ⟨w.heap.size, 0, none⟩ = false := frozen_obj ob
  have HS : Hid (Below W2.heap.size W2 (W2.setCell ⟨w.heap.size, 0, none⟩ .nilIface)) := setCell_still ob rfl _
  have HKp : Hid (Kp F w (W2.setCell ⟨w.heap.size, 0, none⟩ .nilIface)) := ((Kp.of_new HB1.out).trans hk2).trans (Kp.of_new HS.out)
  have cS : (W2.setCell ⟨w.heap.size, 0, none⟩ .nilIface).cell? ⟨w.heap.size, 0, none⟩ = some .nilIface := (HS.out.cell (p := ⟨w.heap.size, 0, none⟩) (cell_lt c0)).trans c0
  have HR : Hid (R W2) := hR
  clear hk2 hR ob
  go_wp2
  refine leaves_cons (f := 84) (args := #[.pointer (some ⟨w.heap.size, 0, none⟩)]) (by simp) (by simp [go_sem]) ?_
  refine (catch_idle ⟨w.heap.size, 0, none⟩ _).mono ?_
  rintro e u' w'' ⟨rfl, rfl, rfl⟩
  refine ⟨.nilIface, by simp [results, Tryz.results48, go_sem, cS], rfl, W2, HR.out, HS.out, HKp.out⟩

set_option maxRecDepth 10000 in
set_option maxHeartbeats 2000000 in
theorem jask_sync (p1 p2 : Nat) (F : Nat → Prop) (R : World → Prop) (w : World) (hF : ∀ k, F k → k < w.heap.size)
    (hK : ∀ W, Below w.heap.size w W → Calls Tryz.prog 100 #[.pointer (some ⟨p1, 0, none⟩), .pointer (some ⟨p2, 0, none⟩)] W fun e w' => e = .returned .nilIface ∧ Kp F W w' ∧ R w') :
    Calls Tryz.prog 48 #[.func (.func 100) #[] #[.pointer (some ⟨p1, 0, none⟩), .pointer (some ⟨p2, 0, none⟩)]] w fun e w'' => e = .returned .nilIface ∧ ∃ W', R W' ∧ Below W'.heap.size W' w'' ∧ Kp F w w'' := by
  have hmf := mkf
  have hb1 : Below w.heap.size w (w.alloc (.cells #[.nilIface] 54)) := (Below.refl _ _).alloc (Nat.le_refl _) _
  have HK : Hid (Calls Tryz.prog 100 #[.pointer (some ⟨p1, 0, none⟩), .pointer (some ⟨p2, 0, none⟩)] (w.alloc (.cells #[.nilIface] 54)) fun e w' => e = .returned .nilIface ∧ Kp F (w.alloc (.cells #[.nilIface] 54)) w' ∧ R w') := hK _ hb1
  have HF : Hid (∀ k, F k → k < w.heap.size) := hF
  have HB1 : Hid (Below w.heap.size w (w.alloc (.cells #[.nilIface] 54))) := hb1
  clear hK hF hb1
  go_enter_defers Tryz.func48, Tryz.ntmps48
  go_upto_region 3 with (go_at_call 100; refine Calls.mono HK.out ?_; rintro e W2 ⟨rfl, hk2, hR⟩)
  have ob : W2.heap[w.heap.size]? = some (.cells #[.nilIface] 54 (0, 0)) := hk2.obj (fun h => by have := HF.out _ h; omega) (obj_new _ _)
  have c0 : W2.cell? ⟨w.heap.size, 0, none⟩ = some .nilIface := cell_obj ob
  have f0 : W2.frozen? ⟨w.heap.size, 0, none⟩ = false := frozen_obj ob
  have HS : Hid (Below W2.heap.size W2 (W2.setCell ⟨w.heap.size, 0, none⟩ .nilIface)) := setCell_still ob rfl _
  have HKp : Hid (Kp F w (W2.setCell ⟨w.heap.size, 0, none⟩ .nilIface)) := ((Kp.of_new HB1.out).trans hk2).trans (Kp.of_new HS.out)
  have cS : (W2.setCell ⟨w.heap.size, 0, none⟩ .nilIface).cell? ⟨w.heap.size, 0, none⟩ = some .nilIface := (HS.out.cell (p := ⟨w.heap.size, 0, none⟩) (cell_lt c0)).trans c0
  have HR : Hid (R W2) := hR
  clear hk2 hR ob
  go_wp2
  refine leaves_cons (f := 84) (args := #[.pointer (some ⟨w.heap.size, 0, none⟩)]) (by simp) (by simp [go_sem]) ?_
  refine (catch_idle ⟨w.heap.size, 0, none⟩ _).mono ?_
  rintro e u' w'' ⟨rfl, rfl, rfl⟩
  refine ⟨.nilIface, by simp [results, Tryz.results48, go_sem, cS], rfl, W2, HR.out, HS.out, HKp.out⟩
end Go.Proofs.YtploagfjajlloaaGreatDoor
