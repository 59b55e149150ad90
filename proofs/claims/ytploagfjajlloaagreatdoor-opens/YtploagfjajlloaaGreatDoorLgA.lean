import Derived.Test.YtploagfjajlloaaGreatDoorDkY
import Derived.Test.YtploagfjajlloaaGreatDoorLogA
import Derived.Maps.Own
import Derived.Maps.Views
import Derived.Maps.OwnSet
namespace Go.Proofs.YtploagfjajlloaaGreatDoor
open Go.RowKit Jr

/-- The cells of a log's events. -/
def evc (l : List Ev) : List Value := l.flatMap fun e => [.int .i64 e.v, .int .i64 e.p, .string e.st, .string e.d]
theorem evc_snoc (l : List Ev) (e : Ev) : evc (l ++ [e]) = evc l ++ [.int .i64 e.v, .int .i64 e.p, .string e.st, .string e.d] := by simp [evc]
theorem evc_get (l : List Ev) (k : Nat) (e : Ev) (h : l[k]? = some e) : (evc l)[k * 4]? = some (.int .i64 e.v) ∧ (evc l)[k * 4 + 1]? = some (.int .i64 e.p) ∧ (evc l)[k * 4 + 2]? = some (.string e.st) ∧ (evc l)[k * 4 + 3]? = some (.string e.d) := by
  induction l generalizing k with
  | nil => simp at h
  | cons a l ih =>
    cases k with
    | zero => simp at h; subst h; simp [evc]
    | succ k =>
      have := ih k (by simpa using h)
      have e0 : evc (a :: l) = [.int .i64 a.v, .int .i64 a.p, .string a.st, .string a.d] ++ evc l := by simp [evc]
      rw [e0]
      have hk : (k + 1) * 4 = k * 4 + 4 := by omega
      rw [hk]
      refine ⟨?_, ?_, ?_, ?_⟩
      · rw [List.getElem?_append_right (by simp)]; simpa using this.1
      · rw [List.getElem?_append_right (by simp)]; simpa using this.2.1
      · rw [List.getElem?_append_right (by simp)]; simpa using this.2.2.1
      · rw [List.getElem?_append_right (by simp)]; simpa using this.2.2.2
abbrev RV (v : Value) : Option (DataW Value × List MemPlace) := some (.held v, [])
abbrev lobj (v : Value) (m : Nat) : Obj := .cells #[v, .map (some m)] 179 (0, 0)
/-- The log's own block and its events. -/
structure LE (w : World) (g m : Nat) (v : Value) (log : List Ev) : Prop where
  obj : w.heap[g]? = some (lobj v m)
  row : w.ownsRow 0 136 4 v log.length (evc log)
/-- The streams. -/
structure LS (w : World) (m : Nat) (log : List Ev) (S : ByteArray → Value) : Prop where
  map : ∃ D, w.ownsMap Tryz.prog 9 RV m log.length D ∧ Maps.IsMap D ∧ ∀ s : ByteArray, D.atKey (.string s.data.toList) (.held (.slice none 0 0)) = .held (S s)
  str : ∀ s, ∃ xs, w.ownsRow 0 9 1 (S s) (cnt log s) xs
  sep : ∀ s t b, s ≠ t → (S s).ownBlock = some b → (S t).ownBlock ≠ some b
structure LogIs (w : World) (g m : Nat) (v : Value) (log : List Ev) (S : ByteArray → Value) : Prop where
  le : LE w g m v log
  ls : LS w m log S
def SFoot (m : Nat) (S : ByteArray → Value) (k : Nat) : Prop := k = m ∨ ∃ s, (S s).ownBlock = some k
def LFoot (g m : Nat) (v : Value) (S : ByteArray → Value) (k : Nat) : Prop := (k = g ∨ v.ownBlock = some k) ∨ SFoot m S k
theorem LS.mobj {w : World} {m : Nat} {log : List Ev} {S : ByteArray → Value} (h : LS w m log S) : ∃ es c, w.heap[m]? = some (.map es c) := by
  obtain ⟨D, ⟨es, c, hb, _⟩, _⟩ := h.map
  exact ⟨es, c, hb⟩
theorem LE.lt {w : World} {g m : Nat} {v : Value} {log : List Ev} (h : LE w g m v log) {k : Nat} (hk : k = g ∨ v.ownBlock = some k) : k < w.heap.size := by
  rcases hk with rfl | hk
  · exact heap_lt h.obj
  · exact (h.row.lt k hk).2
theorem LS.lt {w : World} {m : Nat} {log : List Ev} {S : ByteArray → Value} (h : LS w m log S) {k : Nat} (hk : SFoot m S k) : k < w.heap.size := by
  rcases hk with rfl | ⟨s, hk⟩
  · obtain ⟨es, c, hm⟩ := h.mobj; exact heap_lt hm
  · obtain ⟨xs, hx⟩ := h.str s; exact (hx.lt k hk).2
theorem LogIs.lt {w : World} {g m : Nat} {v : Value} {log : List Ev} {S : ByteArray → Value} (h : LogIs w g m v log S) {k : Nat} (hk : LFoot g m v S k) : k < w.heap.size := by
  rcases hk with hk | hk
  · exact h.le.lt hk
  · exact h.ls.lt hk
theorem LE.kp {F : Nat → Prop} {w w' : World} {g m : Nat} {v : Value} {log : List Ev} (h : LE w g m v log) (hk : Kp F w w') (hF : ∀ k, (k = g ∨ v.ownBlock = some k) → ¬ F k) : LE w' g m v log :=
  ⟨hk.obj (hF _ (Or.inl rfl)) h.obj, row_on h.row hk (fun k e => hF k (Or.inr e))⟩
theorem LS.kp {F : Nat → Prop} {w w' : World} {m : Nat} {log : List Ev} {S : ByteArray → Value} (h : LS w m log S) (hk : Kp F w w') (hF : ∀ k, SFoot m S k → ¬ F k) : LS w' m log S := by
  refine ⟨?_, fun s => ?_, h.sep⟩
  · obtain ⟨D, ⟨es, c, hb, F0, hs, hD⟩, hm, hat⟩ := h.map
    exact ⟨D, ⟨es, c, hk.obj (hF m (Or.inl rfl)) hb, F0, hs, hD⟩, hm, hat⟩
  · obtain ⟨xs, hx⟩ := h.str s
    exact ⟨xs, row_on hx hk (fun k e => hF k (Or.inr ⟨s, e⟩))⟩
theorem LogIs.kp {F : Nat → Prop} {w w' : World} {g m : Nat} {v : Value} {log : List Ev} {S : ByteArray → Value} (h : LogIs w g m v log S) (hk : Kp F w w') (hF : ∀ k, LFoot g m v S k → ¬ F k) : LogIs w' g m v log S :=
  ⟨h.le.kp hk fun k e => hF k (Or.inl e), h.ls.kp hk fun k e => hF k (Or.inr e)⟩
theorem LogIs.new {w w' : World} {g m : Nat} {v : Value} {log : List Ev} {S : ByteArray → Value} (h : LogIs w g m v log S) (hb : Below w.heap.size w w') : LogIs w' g m v log S :=
  h.kp (F := fun _ => False) (Kp.of_new hb) (fun _ _ hf => hf)

theorem zero91 (w : World) : (zeroValue 91).run Tryz.prog w = .ok (.slice none 0 0) w := Tryz.zeroValue91 w
theorem keyS (s : ByteArray) (hs : s.size ≤ maxLen) : keyOf Tryz.prog 9 (.string s) = some (.string s.data.toList) := WideMaps.keyOf_string_mk Tryz.underlying9 hs
theorem keyedS : Maps.Keyed Tryz.prog 9 := Maps.string_keyed Tryz.underlying9
theorem LS.look {w : World} {m : Nat} {log : List Ev} {S : ByteArray → Value} (h : LS w m log S) (s : ByteArray) (hs : s.size ≤ maxLen) : (Instr.lookup 177 (.map (some m)) (.string s) false).run Tryz.prog w = .ok (S s) w := by
  obtain ⟨D, hD, _, hat⟩ := h.map
  obtain ⟨v, ps, hrun, hv⟩ := hD.lookup keyedS Tryz.underlying177 (zero91 w) rfl (keyS s hs)
  rw [hat s] at hv
  simp only [RV, Option.some.injEq, Prod.mk.injEq, DataW.held.injEq] at hv
  rw [hv.1] at hrun; exact hrun

theorem ls_nil (w : World) : LS (w.alloc (.map #[] 0)) w.heap.size [] (fun _ => .slice none 0 0) := by
  refine ⟨⟨.map [], World.ownsMap_made w _ _ _, Maps.isMap_empty, fun s => rfl⟩, fun s => ⟨[], ?_⟩, fun s t b _ h => by cases h⟩
  exact World.ownsRow_nil _ _ _ _

set_option maxRecDepth 10000 in
set_option maxHeartbeats 1000000 in
theorem jnewlog (w : World) :
    Calls Tryz.prog 47 #[] w fun e w' => e = .returned (.pointer (some ⟨w.heap.size + 1, 0, none⟩)) ∧ LogIs w' (w.heap.size + 1) w.heap.size (.slice none 0 0) [] (fun _ => .slice none 0 0) ∧ Below w.heap.size w w' := by
  have hmm := @run_makeMap Tryz.prog
  go_enter Tryz.func47, Tryz.ntmps47
  go_wp2
  go_ret
  have hb : Below w.heap.size w (w.alloc (.map #[] 0)) := (Below.refl _ _).alloc (Nat.le_refl _) _
  have hb2 : Below (w.alloc (.map #[] 0)).heap.size (w.alloc (.map #[] 0)) ((w.alloc (.map #[] 0)).alloc (lobj (.slice none 0 0) w.heap.size)) := (Below.refl _ _).alloc (Nat.le_refl _) _
  refine ⟨rfl, ⟨⟨?_, World.ownsRow_nil _ _ _ _⟩, ?_⟩, hb.trans (hb2.mono hb.size)⟩
  · have := obj_new (w.alloc (.map #[] 0)) (lobj (.slice none 0 0) w.heap.size)
    simpa using this
  · exact (ls_nil w).kp (F := fun _ => False) (Kp.of_new hb2) (fun _ _ hf => hf)

set_option maxRecDepth 10000 in
set_option maxHeartbeats 1000000 in
theorem jnext (g m : Nat) (v : Value) (log : List Ev) (w : World) (h : LE w g m v log) :
    Calls Tryz.prog 53 #[.pointer (some ⟨g, 0, none⟩)] w fun e w' => e = .returned (.int .i64 log.length) ∧ w' = w := by
  obtain ⟨p, cap, rfl, hc, hm, -⟩ := row_shape h.row
  unfold maxLen at hm
  have c0 : w.cell? ⟨g, 0, none⟩ = some (.slice p log.length cap) := cell_obj h.obj
  clear h
  go_enter Tryz.func53, Tryz.ntmps53
  go_wp2
  go_ret
  exact ⟨rfl, rfl⟩

set_option maxRecDepth 10000 in
set_option maxHeartbeats 1000000 in
theorem jversion (g m : Nat) (v : Value) (log : List Ev) (S : ByteArray → Value) (s : ByteArray) (w : World) (h : LogIs w g m v log S) (hs : s.size ≤ maxLen) :
    Calls Tryz.prog 96 #[.pointer (some ⟨g, 0, none⟩), .string s] w fun e w' => e = .returned (.int .i64 (cnt log s)) ∧ w' = w := by
  have hl := h.ls.look s hs
  obtain ⟨xs, hx⟩ := h.ls.str s
  obtain ⟨p, cap, hS, hc, hm, -⟩ := row_shape hx
  rw [hS] at hl
  unfold maxLen at hm
  have c0 : w.cell? ⟨g, 1, none⟩ = some (.map (some m)) := cell_obj h.le.obj
  clear h hx hS
  go_enter Tryz.func96, Tryz.ntmps96
  go_wp2
  go_ret
  exact ⟨rfl, rfl⟩
end Go.Proofs.YtploagfjajlloaaGreatDoor
