import Derived.Test.YtploagfjajlloaaGreatDoorFmX
import Derived.Test.YtploagfjajlloaaGreatDoorTkA
import Derived.Test.YtploagfjajlloaaGreatDoorWrX
import Derived.Test.YtploagfjajlloaaGreatDoorHdX
namespace Go.Proofs.YtploagfjajlloaaGreatDoor
open Go.RowKit Jr

abbrev fobj (g : Nat) (sv : Value) (sz gd : Int) : Obj := .cells #[.pointer (some ⟨g, 0, none⟩), sv, .int .i64 sz, .int .i64 gd] 101 (0, 0)
structure FoundIs (w : World) (fb g : Nat) (sv : Value) (nms : List ByteArray) (sz gd : Int) (B : Nat) : Prop where
  obj : w.heap[fb]? = some (fobj g sv sz gd)
  row : w.ownsRow B 9 1 sv nms.length (nms.map .string)
structure FR (w wr : World) (d : Nat) (dv : Value) (L : List DF) (s x : Int) (fb g m : Nat) (log : List Ev) (nms : List ByteArray) (sz gd : Int) (v : Value) (S : ByteArray → Value) (sv : Value) (c : Int) : Prop where
  lg : LogIs wr g m v log S
  fd : FoundIs wr fb g sv nms sz gd w.heap.size
  dk : Dk wr d dv L c s x
  kp : Kp (· = d) w wr
  lf : ∀ k, LFoot g m v S k → w.heap.size ≤ k
  sep : ∀ k, sv.ownBlock = some k → ¬ LFoot g m v S k
  fbB : w.heap.size ≤ fb
  dl : ∀ k, DFoot d dv L k → k < w.heap.size
section
variable {w wr w' : World} {d : Nat} {dv : Value} {L : List DF} {s x : Int} {fb g m : Nat} {log : List Ev} {nms : List ByteArray} {sz gd : Int} {v : Value} {S : ByteArray → Value} {sv : Value} {c : Int}
theorem FR.dlt (h : FR w wr d dv L s x fb g m log nms sz gd v S sv c) : d < w.heap.size := h.dl d (Or.inl rfl)
theorem FR.new (h : FR w wr d dv L s x fb g m log nms sz gd v S sv c) (hb : Below wr.heap.size wr w') : FR w w' d dv L s x fb g m log nms sz gd v S sv c :=
  ⟨h.lg.new hb, ⟨below_obj hb (heap_lt h.fd.obj) h.fd.obj, row_on' h.fd.row hb fun k e => (h.fd.row.lt k e).2⟩, h.dk.new hb, h.kp.trans (Kp.of_new hb), h.lf, h.sep, h.fbB, h.dl⟩
theorem FR.read {c' : Int} (h : FR w wr d dv L s x fb g m log nms sz gd v S sv c) (hk : Kp (· = d) wr w') (hd : Dk w' d dv L c' s x) : FR w w' d dv L s x fb g m log nms sz gd v S sv c' := by
  have hdl := h.dlt
  refine ⟨h.lg.kp hk fun k hf e => ?_, ⟨hk.obj ?_ h.fd.obj, row_on h.fd.row hk fun k e e' => ?_⟩, hd, h.kp.trans hk, h.lf, h.sep, h.fbB, h.dl⟩
  · have := h.lf k hf; omega
  · have := h.fbB; omega
  · have := (h.fd.row.lt k e).1; omega
theorem FR.fbnot (h : FR w wr d dv L s x fb g m log nms sz gd v S sv c) : ¬ LFoot g m v S fb := by
  rintro ((e | e) | e | ⟨t, e⟩)
  · subst e; exact tag_ne h.fd.obj h.lg.le.obj (by decide) rfl
  · obtain ⟨C, hC⟩ := row_tag h.lg.le.row e
    exact tag_ne h.fd.obj hC (by decide) rfl
  · subst e
    obtain ⟨es, c, hm⟩ := h.lg.ls.mobj
    rw [h.fd.obj] at hm; cases hm
  · obtain ⟨xs, hx⟩ := h.lg.ls.str t
    obtain ⟨C, hC⟩ := row_tag hx e
    exact tag_ne h.fd.obj hC (by decide) rfl
theorem FR.set (h : FR w wr d dv L s x fb g m log nms sz gd v S sv c) {sz' gd' : Int} (hk : Kp (· = fb) wr w') (ho : w'.heap[fb]? = some (fobj g sv sz' gd')) : FR w w' d dv L s x fb g m log nms sz' gd' v S sv c := by
  have hb := h.fbB
  refine ⟨h.lg.kp hk fun k hf e => h.fbnot (e ▸ hf), ⟨ho, row_on h.fd.row hk fun k e e' => ?_⟩, h.dk.kp hk fun k hf e => ?_, h.kp.andThen hk fun i hi e => by omega, h.lf, h.sep, h.fbB, h.dl⟩
  · subst e'
    obtain ⟨C, hC⟩ := row_tag h.fd.row e
    exact tag_ne hC h.fd.obj (by decide) rfl
  · have := h.dl k hf; omega
theorem FR.setSz (h : FR w wr d dv L s x fb g m log nms sz gd v S sv c) (n : Int) : FR w (wr.setCell ⟨fb, 2, none⟩ (.int .i64 n)) d dv L s x fb g m log nms n gd v S sv c :=
  h.set ((Kp.refl (· = fb) wr).setCell (a := ⟨fb, 2, none⟩) (fun _ => rfl) _) (by rw [obj_setCell_same h.fd.obj]; rfl)
theorem FR.setGd (h : FR w wr d dv L s x fb g m log nms sz gd v S sv c) (n : Int) : FR w (wr.setCell ⟨fb, 3, none⟩ (.int .i64 n)) d dv L s x fb g m log nms sz n v S sv c :=
  h.set ((Kp.refl (· = fb) wr).setCell (a := ⟨fb, 3, none⟩) (fun _ => rfl) _) (by rw [obj_setCell_same h.fd.obj]; rfl)
theorem FR.took {log' : List Ev} {v' : Value} {S' : ByteArray → Value} (h : FR w wr d dv L s x fb g m log nms sz gd v S sv c) (hl : LogIs w' g m v' log' S') (hk : Kp (LFoot g m v S) wr w') (hs : ∀ k, LFoot g m v' S' k → LFoot g m v S k ∨ wr.heap.size ≤ k) : FR w w' d dv L s x fb g m log' nms sz gd v' S' sv c := by
  refine ⟨hl, ⟨hk.obj h.fbnot h.fd.obj, row_on h.fd.row hk fun k e => h.sep k e⟩, h.dk.kp hk fun k hf e => ?_, h.kp.andThen hk fun i hi e => ?_, fun k hf => ?_, fun k e hf => ?_, h.fbB, h.dl⟩
  · have := h.dl k hf; have := h.lf k e; omega
  · have := h.lf i e; omega
  · rcases hs k hf with h1 | h1
    · exact h.lf k h1
    · exact Nat.le_trans h.kp.size h1
  · rcases hs k hf with h1 | h1
    · exact h.sep k e h1
    · have := (h.fd.row.lt k e).2; omega
/-- One name more. -/
theorem FR.seg (h : FR w wr d dv L s x fb g m log nms sz gd v S sv c) (nm : ByteArray) (hn : nms.length ≤ 1000000000) :
    ∃ q qc w2, Hid (∀ ty, (Builtin.append_ #[91, 91] ty #[sv, .slice (some ⟨wr.heap.size, 0, none⟩) 1 1]).run Tryz.prog (wr.alloc (.cells #[.string nm] 9)) = .ok (.slice (some q) (nms.length + 1) qc) w2) ∧
      w2.cell? ⟨fb, 1, none⟩ = some sv ∧ w2.frozen? ⟨fb, 1, none⟩ = false ∧ Hid (FR w (w2.setCell ⟨fb, 1, none⟩ (.slice (some q) (nms.length + 1) qc)) d dv L s x fb g m log (nms ++ [nm]) sz gd v S (.slice (some q) (nms.length + 1) qc) c ∧ Kp (fun k => k = fb ∨ sv.ownBlock = some k) wr (w2.setCell ⟨fb, 1, none⟩ (.slice (some q) (nms.length + 1) qc))) := by
  obtain ⟨v2, w2, HR, ho2, hg2, hob, q, qc, rfl⟩ := appN Tryz.underlying91 infoS rfl (by decide) h.fd.row [.string nm] rfl (fun u hu => by simp at hu; subst hu; rfl) (by omega) (by unfold maxLen; omega) h.kp.size
  have hk2 : Kp (fun k => sv.ownBlock = some k) wr w2 := Kp.of_grown hg2 (fun k e _ => e)
  have hnf : ¬ sv.ownBlock = some fb := fun e => by
    obtain ⟨C, hC⟩ := row_tag h.fd.row e
    exact tag_ne hC h.fd.obj (by decide) rfl
  have of2 : w2.heap[fb]? = some (fobj g sv sz gd) := hk2.obj hnf h.fd.obj
  have hk3 : Kp (· = fb) w2 (w2.setCell ⟨fb, 1, none⟩ (.slice (some q) (nms.length + 1) qc)) := (Kp.refl (· = fb) w2).setCell (a := ⟨fb, 1, none⟩) (fun _ => rfl) _
  have hk23 : Kp (fun k => k = fb ∨ sv.ownBlock = some k) wr (w2.setCell ⟨fb, 1, none⟩ (.slice (some q) (nms.length + 1) qc)) := (hk2.mono fun k _ e => Or.inr e).trans (hk3.mono fun k _ e => Or.inl e)
  have hF : ∀ k, (k = fb ∨ sv.ownBlock = some k) → w.heap.size ≤ k := fun k hk => by
    rcases hk with rfl | hk
    · exact h.fbB
    · exact (h.fd.row.lt k hk).1
  refine ⟨q, qc, w2, HR, cell_obj of2, frozen_obj of2, ⟨⟨h.lg.kp hk23 fun k hf e => ?_, ⟨?_, ?_⟩, h.dk.kp hk23 fun k hf e => ?_, h.kp.andThen hk23 fun i hi e => ?_, h.lf, fun k e hf => ?_, h.fbB, h.dl⟩, hk23⟩⟩
  · rcases e with rfl | e
    · exact h.fbnot hf
    · exact h.sep k e hf
  · rw [obj_setCell_same of2]; rfl
  · rw [List.length_append, List.map_append]
    exact row_on ho2 hk3 fun k e e' => by
      subst e'
      obtain ⟨C, hC⟩ := row_tag ho2 e
      exact tag_ne hC of2 (by decide) rfl
  · have := h.dl k hf; have := hF k e; omega
  · have := hF i e; omega
  · rcases hob with h1 | ⟨r, h1, h2⟩
    · exact h.sep k (h1.symm.trans e) hf
    · have hr : r = k := Option.some.inj (h2.symm.trans e)
      have := h.lg.lt hf; omega
end
end Go.Proofs.YtploagfjajlloaaGreatDoor
