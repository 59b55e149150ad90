import Derived.Test.YtploagfjajlloaaGreatDoorPlX
import Derived.Test.YtploagfjajlloaaGreatDoorLocks
import Derived.Conc.RwLoneW
namespace Go.Proofs.YtploagfjajlloaaGreatDoor
open Go.RowKit Jr Go.RwLone

theorem up1 : wrap32 (0 + 1) = 1 := by kernel_rfl
theorem dn1 : wrap32 (1 + -1) = 0 := by kernel_rfl
theorem rlock0 (sb : Nat) (lp : Value) (cl : Bool) (w : World) (h : w.heap[sb]? = some (sobj lp cl)) :
    Calls Tryz.prog 103 #[.pointer (some ⟨sb, 0, none⟩)] w fun e w' => e = .returned (.tuple #[]) ∧ w' = w.setCell ⟨sb, 4, none⟩ (.int .i32 1) :=
  by
  have := rlock_open Tryz.rwRLib sb 0 0 _ _ w (cell_obj h) (cell_obj h) (cell_obj h) (frozen_obj h) (by rw [up1]; decide)
  rw [up1] at this; exact this
theorem runlock0 (sb : Nat) (x0 x2 : Value) (w : World) (c0 : w.cell? ⟨sb, 0, none⟩ = some x0) (c2 : w.cell? ⟨sb, 2, none⟩ = some x2) (c4 : w.cell? ⟨sb, 4, none⟩ = some (.int .i32 1)) (f4 : w.frozen? ⟨sb, 4, none⟩ = false) (u : FrameMode) :
    CallsD Tryz.prog 104 #[.pointer (some ⟨sb, 0, none⟩)] u w fun e u' w' => u' = u ∧ (e = .returned (.tuple #[]) ∧ w' = w.setCell ⟨sb, 4, none⟩ (.int .i32 0)) :=
  by
  have := runlock_deferred Tryz.rwRLib sb 0 1 x0 x2 u w c0 c2 c4 f4 (by rw [dn1]; decide)
  rw [dn1] at this; exact this

set_option maxRecDepth 10000 in
set_option maxHeartbeats 2000000 in
theorem jevents (sb g m : Nat) (v : Value) (log : List Ev) (w : World) (hsb : w.heap[sb]? = some (sobj (.pointer (some ⟨g, 0, none⟩)) false)) (hle : LE w g m v log) :
    Calls Tryz.prog 70 #[.pointer (some ⟨sb, 0, none⟩)] w fun e w' => e = .returned v ∧ Kp (· = sb) w w' ∧ w'.heap[sb]? = some (sobj (.pointer (some ⟨g, 0, none⟩)) false) := by
  obtain ⟨p, cap, rfl, -⟩ := row_shape hle.row
  have HC : Hid _ := rlock0 sb _ _ w hsb
  obtain ⟨W1, hW1⟩ : ∃ W1, W1 = w.setCell ⟨sb, 4, none⟩ (.int .i32 1) := ⟨_, rfl⟩
  rw [← hW1] at HC
  have o1 : W1.heap[sb]? = some (.cells #[.int .i32 0, .int .u32 0, .int .u32 0, .int .u32 0, .int .i32 1, .int .i32 0, .pointer (some ⟨g, 0, none⟩), .bool false] 115 (0, 0)) := by rw [hW1, obj_setCell_same hsb]; rfl
  have hk1 : Kp (· = sb) w W1 := by rw [hW1]; exact (Kp.refl (· = sb) w).setCell (a := ⟨sb, 4, none⟩) (fun _ => rfl) _
  have og : W1.heap[g]? = some (lobj (.slice p log.length cap) m) := hk1.obj (tag_ne hle.obj hsb (by decide)) hle.obj
  have c6 : W1.cell? ⟨sb, 6, none⟩ = some (.pointer (some ⟨g, 0, none⟩)) := cell_obj o1
  have cg : W1.cell? ⟨g, 0, none⟩ = some (.slice p log.length cap) := cell_obj og
  have HO1 : Hid (W1.heap[sb]? = some (.cells #[.int .i32 0, .int .u32 0, .int .u32 0, .int .u32 0, .int .i32 1, .int .i32 0, .pointer (some ⟨g, 0, none⟩), .bool false] 115 (0, 0))) := o1
  have HK1 : Hid (Kp (· = sb) w W1) := hk1
  clear hle hsb o1 hk1 og hW1
  go_enter_defers Tryz.func70, Tryz.ntmps70
  go_wp2_with (go_at_call 103; refine Calls.mono HC.out ?_; rintro e w' ⟨rfl, hw⟩; rw [hw]; clear hw)
  refine leaves_cons (f := 104) (args := #[.pointer (some ⟨sb, 0, none⟩)]) (by simp) (by simp [go_sem]) ?_
  refine (runlock0 sb _ _ W1 (cell_obj HO1.out) (cell_obj HO1.out) (cell_obj HO1.out) (frozen_obj HO1.out) .returning).mono ?_
  rintro e u' w'' ⟨rfl, rfl, rfl⟩
  refine ⟨_, results_tmp rfl _ _ _, rfl, HK1.out.setCell (a := ⟨sb, 4, none⟩) (fun _ => rfl) _, ?_⟩
  rw [obj_setCell_same HO1.out]; rfl

theorem wlock0 (sb : Nat) (lp : Value) (cl : Bool) (w : World) (h : w.heap[sb]? = some (sobj lp cl)) :
    Calls Tryz.prog 45 #[.pointer (some ⟨sb, 0, none⟩)] w fun e w' => e = .returned (.tuple #[]) ∧ w' = (w.setCell ⟨sb, 0, none⟩ (.int .i32 1)).setCell ⟨sb, 4, none⟩ (.int .i32 (-1073741824)) :=
  wlock_free Tryz.rwWLib sb 0 _ _ w (cell_obj h) (cell_obj h) (cell_obj h) (cell_obj h) (frozen_obj h) (frozen_obj h)
theorem wunlock0 (sb : Nat) (x2 x3 : Value) (w : World) (c0 : w.cell? ⟨sb, 0, none⟩ = some (.int .i32 1)) (c2 : w.cell? ⟨sb, 2, none⟩ = some x2) (c3 : w.cell? ⟨sb, 3, none⟩ = some x3) (c4 : w.cell? ⟨sb, 4, none⟩ = some (.int .i32 (-1073741824))) (f0 : w.frozen? ⟨sb, 0, none⟩ = false) (f4 : w.frozen? ⟨sb, 4, none⟩ = false) (u : FrameMode) :
    CallsD Tryz.prog 46 #[.pointer (some ⟨sb, 0, none⟩)] u w fun e u' w' => u' = u ∧ (e = .returned (.tuple #[]) ∧ w' = (w.setCell ⟨sb, 4, none⟩ (.int .i32 0)).setCell ⟨sb, 0, none⟩ (.int .i32 0)) :=
  wunlock_deferred Tryz.rwWLib sb 0 x2 x3 u w c0 c2 c3 c4 f0 f4

abbrev lkobj (lp : Value) (cl : Bool) : Obj := .cells #[.int .i32 1, .int .u32 0, .int .u32 0, .int .u32 0, .int .i32 (-1073741824), .int .i32 0, lp, .bool cl] 115 (0, 0)

set_option maxRecDepth 10000 in
set_option maxHeartbeats 2000000 in
theorem jclose (sb : Nat) (lp : Addr) (w : World) (hsb : w.heap[sb]? = some (sobj (.pointer (some lp)) false)) :
    Calls Tryz.prog 32 #[.pointer (some ⟨sb, 0, none⟩)] w fun e w' => e = .returned .nilIface ∧ Kp (· = sb) w w' := by
  have HC : Hid _ := wlock0 sb _ _ w hsb
  obtain ⟨W1, hW1⟩ : ∃ W1, W1 = (w.setCell ⟨sb, 0, none⟩ (.int .i32 1)).setCell ⟨sb, 4, none⟩ (.int .i32 (-1073741824)) := ⟨_, rfl⟩
  rw [← hW1] at HC
  have o1 : W1.heap[sb]? = some (lkobj (.pointer (some lp)) false) := by
    have h1 : (w.setCell ⟨sb, 0, none⟩ (.int .i32 1)).heap[sb]? = some (.cells #[.int .i32 1, .int .u32 0, .int .u32 0, .int .u32 0, .int .i32 0, .int .i32 0, .pointer (some lp), .bool false] 115 (0, 0)) := by rw [obj_setCell_same hsb]; rfl
    rw [hW1, obj_setCell_same h1]; rfl
  have hk1 : Kp (· = sb) w W1 := by rw [hW1]; exact ((Kp.refl (· = sb) w).setCell (a := ⟨sb, 0, none⟩) (fun _ => rfl) _).setCell (a := ⟨sb, 4, none⟩) (fun _ => rfl) _
  have c7 : W1.cell? ⟨sb, 7, none⟩ = some (.bool false) := cell_obj o1
  have f7 : W1.frozen? ⟨sb, 7, none⟩ = false := frozen_obj o1
  have o2 : (W1.setCell ⟨sb, 7, none⟩ (.bool true)).heap[sb]? = some (lkobj (.pointer (some lp)) true) := by rw [obj_setCell_same o1]; rfl
  have HO2 : Hid ((W1.setCell ⟨sb, 7, none⟩ (.bool true)).heap[sb]? = some (lkobj (.pointer (some lp)) true)) := o2
  have HK2 : Hid (Kp (· = sb) w (W1.setCell ⟨sb, 7, none⟩ (.bool true))) := hk1.setCell (a := ⟨sb, 7, none⟩) (fun _ => rfl) _
  obtain ⟨W2, hW2⟩ : ∃ W2, W2 = W1.setCell ⟨sb, 7, none⟩ (.bool true) := ⟨_, rfl⟩
  rw [← hW2] at HO2 HK2
  clear hsb o1 hk1 o2 hW1
  go_enter_defers Tryz.func32, Tryz.ntmps32
  go_upto_region 6 with (go_at_call 45; refine Calls.mono HC.out ?_; rintro e w' ⟨rfl, hw⟩; rw [hw]; clear hw)
  rw [← hW2]
  clear hW2 c7 f7 HC
  go_wp2_with (go_at_call 47; refine Calls.mono (jnewlog W2) ?_; rintro e W3 ⟨rfl, -, hb3⟩; have o3 := below_obj hb3 (heap_lt HO2.out) HO2.out; have c6 : W3.cell? ⟨sb, 6, none⟩ = some (.pointer (some lp)) := cell_obj o3; have f6 : W3.frozen? ⟨sb, 6, none⟩ = false := frozen_obj o3; have HO3 : Hid (W3.heap[sb]? = some (lkobj (.pointer (some lp)) true)) := o3; have HK3 : Hid (Kp (· = sb) w W3) := HK2.out.trans (Kp.of_new hb3); clear o3 hb3 HK2 HO2)
  have o4 : (W3.setCell ⟨sb, 6, none⟩ (.pointer (some ⟨W2.heap.size + 1, 0, none⟩))).heap[sb]? = some (lkobj (.pointer (some ⟨W2.heap.size + 1, 0, none⟩)) true) := by rw [obj_setCell_same HO3.out]; rfl
  refine leaves_cons (f := 46) (args := #[.pointer (some ⟨sb, 0, none⟩)]) (by simp) (by simp [go_sem]) ?_
  refine (wunlock0 sb _ _ _ (cell_obj o4) (cell_obj o4) (cell_obj o4) (cell_obj o4) (frozen_obj o4) (frozen_obj o4) .returning).mono ?_
  rintro e u' w'' ⟨rfl, rfl, rfl⟩
  exact ⟨_, results_tmp rfl _ _ _, rfl, ((HK3.out.setCell (a := ⟨sb, 6, none⟩) (fun _ => rfl) _).setCell (a := ⟨sb, 4, none⟩) (fun _ => rfl) _).setCell (a := ⟨sb, 0, none⟩) (fun _ => rfl) _⟩
end Go.Proofs.YtploagfjajlloaaGreatDoor
namespace Go.Proofs.YtploagfjajlloaaGreatDoor
open Go.RowKit Jr

set_option maxHeartbeats 1000000 in
theorem pevent (v p : Int) (st d : ByteArray) (w : World) :
    Calls Tryz.prog 44 #[.agg (ev v p st d)] w fun e w' => e = .returned (.agg (pev st v p d)) ∧ Below w.heap.size w w' := by
  go_enter Tryz.func44, Tryz.ntmps44
  go_wp2
  refine bodyPost_ret (v := .agg (pev st v p d)) (by simp [results, Tryz.results44, go_sem]) rfl ⟨rfl, ?_⟩
  go_grown
theorem infoPE : (Tryz.prog.info? 87).map (fun i => (i.zero, i.size, i.bytes)) = some (some (.agg #[.string ⟨#[]⟩, .int .i64 0, .int .i64 0, .string ⟨#[]⟩]), 4, 48) := by kernel_rfl

def pvc (l : List Ev) : List Value := l.flatMap fun e => [.string e.st, .int .i64 e.v, .int .i64 e.p, .string e.d]
theorem pvc_snoc (l : List Ev) (e : Ev) : pvc (l ++ [e]) = pvc l ++ [.string e.st, .int .i64 e.v, .int .i64 e.p, .string e.d] := by simp [pvc]
theorem pvc_get (l : List Ev) (k : Nat) (e : Ev) (h : l[k]? = some e) : (pvc l)[k * 4]? = some (.string e.st) ∧ (pvc l)[k * 4 + 1]? = some (.int .i64 e.v) ∧ (pvc l)[k * 4 + 2]? = some (.int .i64 e.p) ∧ (pvc l)[k * 4 + 3]? = some (.string e.d) := by
  induction l generalizing k with
  | nil => simp at h
  | cons a l ih =>
    cases k with
    | zero => simp at h; subst h; simp [pvc]
    | succ k =>
      have := ih k (by simpa using h)
      have e0 : pvc (a :: l) = [.string a.st, .int .i64 a.v, .int .i64 a.p, .string a.d] ++ pvc l := by simp [pvc]
      rw [e0]
      have hk : (k + 1) * 4 = k * 4 + 4 := by omega
      rw [hk]
      refine ⟨?_, ?_, ?_, ?_⟩
      · rw [List.getElem?_append_right (by simp)]; simpa using this.1
      · rw [List.getElem?_append_right (by simp)]; simpa using this.2.1
      · rw [List.getElem?_append_right (by simp)]; simpa using this.2.2.1
      · rw [List.getElem?_append_right (by simp)]; simpa using this.2.2.2
abbrev pbox (e : Ev) : Array Value := pev e.st e.v e.p e.d
structure YS (w : World) (rb sx lb nb : Nat) (lv : Value) (evs : List Ev) (stop : Bool) (n : Int) (B : Nat) : Prop where
  r : w.heap[rb]? = some (.cells #[.bool true] 4 (0, 0))
  s : w.heap[sx]? = some (.cells #[.bool stop] 4 (0, 0))
  l : w.heap[lb]? = some (.cells #[lv] 83 (0, 0))
  n : w.heap[nb]? = some (.cells #[.int .i64 n] 3 (0, 0))
  row : w.ownsRow B 87 4 lv evs.length (pvc evs)
  ne : rb ≠ sx
def YFoot (rb sx lb : Nat) (lv : Value) (k : Nat) : Prop := k = rb ∨ k = sx ∨ k = lb ∨ lv.ownBlock = some k
section
variable {w w' : World} {rb sx lb nb : Nat} {lv : Value} {evs : List Ev} {stop : Bool} {n : Int} {B : Nat}
theorem YS.kp {F : Nat → Prop} (h : YS w rb sx lb nb lv evs stop n B) (hk : Kp F w w') (h1 : ¬ F rb) (h2 : ¬ F sx) (h3 : ¬ F lb) (h4 : ¬ F nb) (h5 : ∀ k, lv.ownBlock = some k → ¬ F k) : YS w' rb sx lb nb lv evs stop n B :=
  ⟨hk.obj h1 h.r, hk.obj h2 h.s, hk.obj h3 h.l, hk.obj h4 h.n, row_on h.row hk h5, h.ne⟩
theorem YS.new (h : YS w rb sx lb nb lv evs stop n B) (hb : Below w.heap.size w w') : YS w' rb sx lb nb lv evs stop n B :=
  h.kp (F := fun _ => False) (Kp.of_new hb) (fun h => h) (fun h => h) (fun h => h) (fun h => h) (fun _ _ h => h)
theorem YS.setR (h : YS w rb sx lb nb lv evs stop n B) : YS (w.setCell ⟨rb, 0, none⟩ (.bool true)) rb sx lb nb lv evs stop n B := by
  have hk : Kp (· = rb) w (w.setCell ⟨rb, 0, none⟩ (.bool true)) := (Kp.refl (· = rb) w).setCell (a := ⟨rb, 0, none⟩) (fun _ => rfl) _
  refine ⟨box_set h.r, hk.obj (Ne.symm h.ne) h.s, hk.obj (tag_ne h.l h.r (by decide)) h.l, hk.obj (tag_ne h.n h.r (by decide)) h.n, row_on h.row hk fun k e e' => ?_, h.ne⟩
  subst e'
  obtain ⟨C, hC⟩ := row_tag h.row e
  exact tag_ne hC h.r (by decide) rfl
theorem YS.setS (h : YS w rb sx lb nb lv evs stop n B) (b : Bool) : YS (w.setCell ⟨sx, 0, none⟩ (.bool b)) rb sx lb nb lv evs b n B := by
  have hk : Kp (· = sx) w (w.setCell ⟨sx, 0, none⟩ (.bool b)) := (Kp.refl (· = sx) w).setCell (a := ⟨sx, 0, none⟩) (fun _ => rfl) _
  refine ⟨hk.obj h.ne h.r, box_set h.s, hk.obj (tag_ne h.l h.s (by decide)) h.l, hk.obj (tag_ne h.n h.s (by decide)) h.n, row_on h.row hk fun k e e' => ?_, h.ne⟩
  subst e'
  obtain ⟨C, hC⟩ := row_tag h.row e
  exact tag_ne hC h.s (by decide) rfl
theorem YS.app (h : YS w rb sx lb nb lv evs stop n B) (e : Ev) (hL : evs.length ≤ 1000000000) (hB : B ≤ w.heap.size) :
    ∃ q qc w2, Hid (∀ ty, (Builtin.append_ #[83, 83] ty #[lv, .slice (some ⟨w.heap.size, 0, none⟩) 1 1]).run Tryz.prog (w.alloc (.cells (pbox e) 87)) = .ok (.slice (some q) (evs.length + 1) qc) w2) ∧
      w2.cell? ⟨lb, 0, none⟩ = some lv ∧ w2.frozen? ⟨lb, 0, none⟩ = false ∧ Hid (Kp (fun k => lv.ownBlock = some k) w w2) ∧ Hid (YS (w2.setCell ⟨lb, 0, none⟩ (.slice (some q) (evs.length + 1) qc)) rb sx lb nb (.slice (some q) (evs.length + 1) qc) (evs ++ [e]) stop n B ∧ Kp (fun k => k = lb ∨ lv.ownBlock = some k) w (w2.setCell ⟨lb, 0, none⟩ (.slice (some q) (evs.length + 1) qc)) ∧ (lv.ownBlock = some q.block ∨ w.heap.size ≤ q.block)) := by
  obtain ⟨v2, w2, HR, ho2, hg2, hob, q, qc, rfl⟩ := appN Tryz.underlying83 infoPE rfl (by decide) h.row [.string e.st, .int .i64 e.v, .int .i64 e.p, .string e.d] rfl (fun u hu => by
    simp at hu
    rcases hu with rfl | rfl | rfl | rfl <;> rfl) (by omega) (by unfold maxLen; omega) hB
  have hk2 : Kp (fun k => lv.ownBlock = some k) w w2 := Kp.of_grown hg2 (fun k e _ => e)
  have ntag : ∀ {k : Nat} {c : Array Value} {t : TypeId} {fr : Nat × Nat}, w.heap[k]? = some (.cells c t fr) → t ≠ 87 → ¬ lv.ownBlock = some k := fun ho hne e => by
    obtain ⟨C, hC⟩ := row_tag h.row e
    exact tag_ne ho hC hne rfl
  have ol : w2.heap[lb]? = some (.cells #[lv] 83 (0, 0)) := hk2.obj (ntag h.l (by decide)) h.l
  have hk3 : Kp (· = lb) w2 (w2.setCell ⟨lb, 0, none⟩ (.slice (some q) (evs.length + 1) qc)) := (Kp.refl (· = lb) w2).setCell (a := ⟨lb, 0, none⟩) (fun _ => rfl) _
  have hk23 : Kp (fun k => k = lb ∨ lv.ownBlock = some k) w (w2.setCell ⟨lb, 0, none⟩ (.slice (some q) (evs.length + 1) qc)) := (hk2.mono fun k _ e => Or.inr e).trans (hk3.mono fun k _ e => Or.inl e)
  have hno : ∀ {k : Nat} {c : Array Value} {t : TypeId} {fr : Nat × Nat}, w.heap[k]? = some (.cells c t fr) → t ≠ 87 → t ≠ 83 → ¬ (k = lb ∨ lv.ownBlock = some k) := fun ho h1 h2 hc => by
    rcases hc with rfl | hc
    · exact tag_ne ho h.l h2 rfl
    · exact ntag ho h1 hc
  refine ⟨q, qc, w2, HR, cell_obj ol, frozen_obj ol, hk2, ⟨⟨hk23.obj (hno h.r (by decide) (by decide)) h.r, hk23.obj (hno h.s (by decide) (by decide)) h.s, box_set ol, hk23.obj (hno h.n (by decide) (by decide)) h.n, ?_, h.ne⟩, hk23, ?_⟩⟩
  · rw [List.length_append, pvc_snoc]
    exact row_on ho2 hk3 fun k e e' => by
      subst e'
      obtain ⟨C, hC⟩ := row_tag ho2 e
      exact tag_ne hC ol (by decide) rfl
  · rcases hob with h | ⟨k, h1, h2⟩
    · exact Or.inl h.symm
    · right
      have : q.block = k := Option.some.inj h2
      rw [this]; omega
end

set_option maxRecDepth 10000 in
set_option maxHeartbeats 4000000 in
theorem pyield (rb sx lb nb : Nat) (lv : Value) (evs : List Ev) (n : Int) (B : Nat) (e : Ev) (st : Bool) (w : World) (h : YS w rb sx lb nb lv evs false n B) (hL : evs.length ≤ 1000000000) (hB : B ≤ w.heap.size) (hst : ((((evs.length : Nat) : Int) + 1) == n) = st) :
    Calls Tryz.prog 43 #[.agg (ebox e), .pointer (some ⟨rb, 0, none⟩), .pointer (some ⟨sx, 0, none⟩), .pointer (some ⟨lb, 0, none⟩), .pointer (some ⟨nb, 0, none⟩)] w fun r w' => r = .returned (.bool (!st)) ∧ ∃ lv', YS w' rb sx lb nb lv' (evs ++ [e]) st n B ∧ Kp (YFoot rb sx lb lv) w w' ∧ ∀ k, lv'.ownBlock = some k → lv.ownBlock = some k ∨ w.heap.size ≤ k := by
  obtain ⟨p, cap, rfl, -⟩ := row_shape h.row
  have hb1 : Below w.heap.size w (w.alloc (.cells (ebox e) 136)) := (Below.refl _ _).alloc (Nat.le_refl _) _
  have h1 := h.new hb1
  have r0 : (w.alloc (.cells (ebox e) 136)).cell? ⟨rb, 0, none⟩ = some (.bool true) := cell_obj h1.r
  have rf : (w.alloc (.cells (ebox e) 136)).frozen? ⟨rb, 0, none⟩ = false := frozen_obj h1.r
  have s0 : (w.alloc (.cells (ebox e) 136)).cell? ⟨sx, 0, none⟩ = some (.bool false) := cell_obj h1.s
  have h2 := h1.setR
  have oz : (w.alloc (.cells (ebox e) 136)).heap[w.heap.size]? = some (.cells (ebox e) 136 (0, 0)) := obj_new _ _
  have hkr : Kp (· = rb) (w.alloc (.cells (ebox e) 136)) ((w.alloc (.cells (ebox e) 136)).setCell ⟨rb, 0, none⟩ (.bool true)) := (Kp.refl (· = rb) _).setCell (a := ⟨rb, 0, none⟩) (fun _ => rfl) _
  have oz2 := hkr.obj (tag_ne oz h1.r (by decide)) oz
  have HK1 : Hid (Kp (YFoot rb sx lb (.slice p evs.length cap)) w ((w.alloc (.cells (ebox e) 136)).setCell ⟨rb, 0, none⟩ (.bool true))) := (Kp.of_new hb1).andThen hkr fun i hi e => Or.inl e
  obtain ⟨W1, hW1⟩ : ∃ W1, W1 = (w.alloc (.cells (ebox e) 136)).setCell ⟨rb, 0, none⟩ (.bool true) := ⟨_, rfl⟩
  rw [← hW1] at h2 oz2 HK1
  have HY1 : Hid (YS W1 rb sx lb nb (.slice p evs.length cap) evs false n B) := h2
  have HZ1 : Hid (W1.heap[w.heap.size]? = some (.cells (ebox e) 136 (0, 0))) := oz2
  have HST : Hid (((((evs.length : Nat) : Int) + 1) == n) = st) := hst
  clear h h1 h2 oz oz2 hkr hb1 hst
  go_enter Tryz.func43, Tryz.ntmps43
  go_upto_region 2 with fail
  have hW1' : (w.alloc (.cells #[.int .i64 e.v, .int .i64 e.p, .string e.st, .string e.d] 136)).setCell ⟨rb, 0, none⟩ (.bool true) = W1 := hW1.symm
  rw [hW1']
  clear hW1 hW1' r0 rf s0
  have hS0 : W1.drew.cell? ⟨lb, 0, none⟩ = some (.slice p evs.length cap) ∧ W1.drew.cell? ⟨w.heap.size, 0, none⟩ = some (.int .i64 e.v) ∧ W1.drew.cell? ⟨w.heap.size, 1, none⟩ = some (.int .i64 e.p) ∧ W1.drew.cell? ⟨w.heap.size, 2, none⟩ = some (.string e.st) ∧ W1.drew.cell? ⟨w.heap.size, 3, none⟩ = some (.string e.d) := ⟨cell_obj HY1.out.l, cell_obj HZ1.out, cell_obj HZ1.out, cell_obj HZ1.out, cell_obj HZ1.out⟩
  refine wp_region_last (S := fun w' => w'.cell? ⟨lb, 0, none⟩ = some (.slice p evs.length cap) ∧ w'.cell? ⟨w.heap.size, 0, none⟩ = some (.int .i64 e.v) ∧ w'.cell? ⟨w.heap.size, 1, none⟩ = some (.int .i64 e.p) ∧ w'.cell? ⟨w.heap.size, 2, none⟩ = some (.string e.st) ∧ w'.cell? ⟨w.heap.size, 3, none⟩ = some (.string e.d)) (by kernel_rfl) rfl (by kernel_rfl) ?_
  refine wpAnyH_take (i := 0) (v := ?_) rfl (by kernel_rfl) (by kernel_rfl) (by kernel_rfl) (fun _ _ _ h => h) (Or.inl ⟨by rfl, ?_⟩) (by assumption) ?_
  rotate_left
  · (intro w hSw; (try dsimp only at hSw); go_simp; try with_reducible rfl)
  try simp only [Act.put]
  refine wpAnyH_take (i := 1) (v := ?_) rfl (by kernel_rfl) (by kernel_rfl) (by kernel_rfl) (fun _ _ _ h => h) (Or.inl ⟨by rfl, ?_⟩) (by assumption) ?_
  rotate_left
  · (intro w hSw; (try dsimp only at hSw); go_simp; try with_reducible rfl)
  try simp only [Act.put]
  refine wpAnyH_ready (rs := [2]) (by kernel_rfl) (by simp) ?_
  refine AllReadyH.cons rfl (fun K hK => ?_) AllReadyH.nil
  go_simp
  refine Calls.mono (pevent e.v e.p e.st e.d W1.drew) ?_
  rintro r2 W2 ⟨rfl, hb2⟩
  have HY2 : Hid (YS W2 rb sx lb nb (.slice p evs.length cap) evs false n B) := (HY1.out.new (Below.refl _ _).drew).new hb2
  have HZ2 : Hid (W2.heap[w.heap.size]? = some (.cells (ebox e) 136 (0, 0))) := below_obj hb2 (heap_lt HZ1.out) HZ1.out
  have HK2 : Hid (Kp (YFoot rb sx lb (.slice p evs.length cap)) w W2) := HK1.out.trans (Kp.of_new ((Below.refl _ _).drew.trans hb2))
  clear hb2 HK1
  obtain ⟨q, qc, w3, HR3, l3, lf3, KP3, HF3⟩ := HY2.out.app e hL (Nat.le_trans hB HK2.out.size)
  have hbA : Below W2.heap.size W2 (W2.alloc (.cells (pbox e) 87)) := (Below.refl _ _).alloc (Nat.le_refl _) _
  have yA := HY2.out.new hbA
  have zA := below_obj hbA (heap_lt HZ2.out) HZ2.out
  have z3 : w3.heap[w.heap.size]? = some (.cells (ebox e) 136 (0, 0)) := KP3.out.obj (fun e' => by obtain ⟨C, hC⟩ := row_tag HY2.out.row e'; exact tag_ne HZ2.out hC (by decide) rfl) HZ2.out
  have hS1 : W2.cell? ⟨lb, 0, none⟩ = some (.slice p evs.length cap) ∧ W2.cell? ⟨w.heap.size, 0, none⟩ = some (.int .i64 e.v) ∧ W2.cell? ⟨w.heap.size, 1, none⟩ = some (.int .i64 e.p) ∧ W2.cell? ⟨w.heap.size, 2, none⟩ = some (.string e.st) ∧ W2.cell? ⟨w.heap.size, 3, none⟩ = some (.string e.d) := ⟨cell_obj HY2.out.l, cell_obj HZ2.out, cell_obj HZ2.out, cell_obj HZ2.out, cell_obj HZ2.out⟩
  have hSA : (W2.alloc (.cells (pbox e) 87)).cell? ⟨lb, 0, none⟩ = some (.slice p evs.length cap) ∧ (W2.alloc (.cells (pbox e) 87)).cell? ⟨w.heap.size, 0, none⟩ = some (.int .i64 e.v) ∧ (W2.alloc (.cells (pbox e) 87)).cell? ⟨w.heap.size, 1, none⟩ = some (.int .i64 e.p) ∧ (W2.alloc (.cells (pbox e) 87)).cell? ⟨w.heap.size, 2, none⟩ = some (.string e.st) ∧ (W2.alloc (.cells (pbox e) 87)).cell? ⟨w.heap.size, 3, none⟩ = some (.string e.d) := ⟨cell_obj yA.l, cell_obj zA, cell_obj zA, cell_obj zA, cell_obj zA⟩
  have hS3 : w3.cell? ⟨lb, 0, none⟩ = some (.slice p evs.length cap) ∧ w3.cell? ⟨w.heap.size, 0, none⟩ = some (.int .i64 e.v) ∧ w3.cell? ⟨w.heap.size, 1, none⟩ = some (.int .i64 e.p) ∧ w3.cell? ⟨w.heap.size, 2, none⟩ = some (.string e.st) ∧ w3.cell? ⟨w.heap.size, 3, none⟩ = some (.string e.d) := ⟨l3, cell_obj z3, cell_obj z3, cell_obj z3, cell_obj z3⟩
  clear hbA yA zA z3 HY1 HZ1 HZ2
  refine hK.out _ _ hS1 (fun hS1' => ?_)
  clear hK K hS1
  try simp only [Act.put]
  clear hS0
  refine wpAnyH_ready (rs := [3]) (by kernel_rfl) (by simp) ?_
  refine AllReadyH.cons rfl (fun K hK => ?_) AllReadyH.nil
  go_simp
  refine hK.out _ _ hSA (fun hS2' => ?_)
  clear hK K hSA
  try simp only [Act.put]
  clear hS1'
  refine wpAnyH_ready (rs := [4]) (by kernel_rfl) (by simp) ?_
  refine AllReadyH.cons rfl (fun K hK => ?_) AllReadyH.nil
  refine step_app (vs := .slice p evs.length cap) (vx := .slice (some ⟨W2.heap.size, 0, none⟩) 1 1) rfl (.tmp 12) (.tmp 15) 83 83 rfl rfl rfl HR3.out ?_
  refine hK.out _ _ hS3 (fun hS3' => ?_)
  clear hK K hS3
  try simp only [Act.put]
  clear hS2'
  refine wpAnyH_done (by kernel_rfl) ?_ _
  show wpList _ _ _ _ _ _
  go_upto_region 3 with fail
  obtain ⟨W4, hW4⟩ : ∃ W4, W4 = w3.setCell ⟨lb, 0, none⟩ (.slice (some q) (evs.length + 1) qc) := ⟨_, rfl⟩
  rw [← hW4] at HF3 ⊢
  have hy4 := HF3.out.1
  have s4 : W4.cell? ⟨sx, 0, none⟩ = some (.bool false) := cell_obj hy4.s
  have sf4 : W4.frozen? ⟨sx, 0, none⟩ = false := frozen_obj hy4.s
  have l4 : W4.cell? ⟨lb, 0, none⟩ = some (.slice (some q) (evs.length + 1) qc) := cell_obj hy4.l
  have n4 : W4.cell? ⟨nb, 0, none⟩ = some (.int .i64 n) := cell_obj hy4.n
  have HY4 : Hid (YS W4 rb sx lb nb (.slice (some q) (evs.length + 1) qc) (evs ++ [e]) false n B) := hy4
  have HY5 : Hid (YS (W4.setCell ⟨sx, 0, none⟩ (.bool st)) rb sx lb nb (.slice (some q) (evs.length + 1) qc) (evs ++ [e]) st n B) := hy4.setS st
  have s5 : (W4.setCell ⟨sx, 0, none⟩ (.bool st)).cell? ⟨sx, 0, none⟩ = some (.bool st) := cell_obj (hy4.setS st).s
  have hst := HST.out
  clear hy4 hW4 l3 lf3 hS3' KP3 HR3 HY2
  go_wp2
  go_ret
  refine ⟨rfl, _, HY5.out, ?_, fun k hk => ?_⟩
  · exact (HK2.out.trans (HF3.out.2.1.mono (G := YFoot rb sx lb (.slice p evs.length cap)) fun k _ e' => Or.inr (Or.inr e'))).setCell (a := ⟨sx, 0, none⟩) (fun _ => Or.inr (Or.inl rfl)) _
  · obtain rfl : q.block = k := Option.some.inj hk
    rcases HF3.out.2.2 with h1 | h1
    · exact Or.inl h1
    · exact Or.inr (Nat.le_trans HK2.out.size h1)
end Go.Proofs.YtploagfjajlloaaGreatDoor
