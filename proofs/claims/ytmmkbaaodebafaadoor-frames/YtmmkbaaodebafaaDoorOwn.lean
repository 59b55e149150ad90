import Derived.Test.YtmmkbaaodebafaaDoorChecked
import Derived.WalkKit
import Derived.WalkLawsBesides
import Derived.Handy
import Derived.Deep.AppendSrc
import Derived.Deep.Upon
namespace Go.Proofs.YtmmkbaaodebafaaDoor
open Go.RowKit

/-- A []byte of the call's own: the bytes l at the head of block g, of capacity cap; B: from there on all blocks are the call's own. -/
structure Own (w : World) (B g cap : Nat) (l : List Nat) : Prop where
  base : B ≤ g
  lt : g < w.heap.size
  le : l.length ≤ cap
  cell : ∀ i, i < l.length → w.cell? ⟨g, i, none⟩ = some (.int .u8 (l.getD i 0 : Nat))
  rest : ∀ i, l.length ≤ i → i < cap → (w.cell? ⟨g, i, none⟩).isSome = true
  free : ∀ i, i < cap → w.frozen? ⟨g, i, none⟩ = false

theorem Own.on {w w' : World} {B g cap : Nat} {l : List Nat} (h : Own w B g cap l) {C : Nat} (hb : Below C w w') (hC : g < C) : Own w' B g cap l :=
  ⟨h.base, Nat.lt_of_lt_of_le h.lt hb.size, h.le, fun i hi => (hb.cell (p := ⟨g, i, none⟩) hC).trans (h.cell i hi), fun i h1 h2 => by rw [hb.cell (p := ⟨g, i, none⟩) hC]; exact h.rest i h1 h2,
   fun i hi => (hb.frozen (p := ⟨g, i, none⟩) hC).trans (h.free i hi)⟩
theorem Own.mono {w : World} {B B' g cap : Nat} {l : List Nat} (h : Own w B g cap l) (hB : B' ≤ B) : Own w B' g cap l := ⟨Nat.le_trans hB h.base, h.lt, h.le, h.cell, h.rest, h.free⟩

/-- Bytes as cells. -/
def bc (l : List Nat) : List Value := l.map fun x => .int .u8 (x : Nat)
theorem bc_length (l : List Nat) : (bc l).length = l.length := by simp [bc]
theorem bc_get (l : List Nat) (i : Nat) (h : i < l.length) : (bc l)[i]? = some (.int .u8 (l.getD i 0 : Nat)) := by simp [bc, h, List.getD]
theorem bc_one (l : List Nat) : ∀ u ∈ bc l, u.oneCell' = true := fun u hu => by
  obtain ⟨_, _, rfl⟩ := List.mem_map.1 hu
  rfl
theorem infoU8 : ∃ i, Tryd.prog.info? 5 = some i ∧ i.zero = some (.int .u8 0) ∧ i.size = 1 ∧ i.bytes = 1 := by
  have hi : (Tryd.prog.info? 5).map (fun i => (i.zero, i.size, i.bytes)) = some (some (.int .u8 0), 1, 1) := by kernel_rfl
  obtain ⟨i0, h1, h2, h3, h4⟩ := info_parts hi
  exact ⟨i0, h1, h2, h3, h4⟩

theorem cell_setCells_in (w : World) (g o : Nat) (vs : List Value) (h : ∀ j, j < vs.length → (w.cell? ⟨g, o + j, none⟩).isSome = true) (j : Nat) (hj : j < vs.length) : (w.setCells g o vs).cell? ⟨g, o + j, none⟩ = vs[j]? := by
  rw [World.cell?_setCells_in g vs o w h j hj]; simp [hj]
theorem cell_setCells_out (w : World) (g o : Nat) (vs : List Value) (i : Nat) (h : i < o ∨ o + vs.length ≤ i) : (w.setCells g o vs).cell? ⟨g, i, none⟩ = w.cell? ⟨g, i, none⟩ :=
  World.cell?_setCells_out g vs o w ⟨g, i, none⟩ (fun _ _ => h)
theorem below_setCells_w {B g : Nat} (hg : B ≤ g) : ∀ (vs : List Value) (o : Nat) (w : World), Below B w (w.setCells g o vs)
  | [], _, _ => Below.refl _ _
  | v :: vs, o, w => (((Below.refl B w).setCell (p := ⟨g, o, none⟩) hg v)).trans (below_setCells_w hg vs (o + 1) _)

/-- A new row. -/
theorem own_alloc (w : World) (l : List Nat) (C : Array Value) (cap : Nat) (fr : Nat × Nat) (hf : fr = (0, 0) ∨ fr = (cap, cap + 1)) (hle : l.length ≤ cap) (hs : C.size = cap) (hC : ∀ i, i < l.length → C[i]? = some (.int .u8 (l.getD i 0 : Nat))) :
    Own (w.alloc (.cells C 5 fr)) w.heap.size w.heap.size cap l := by
  refine ⟨Nat.le_refl _, by simp, hle, fun i hi => ?_, fun i h1 h2 => ?_, fun i hi => ?_⟩
  · rw [World.cell?_alloc_mark]; exact hC i hi
  · rw [World.cell?_alloc_mark, Array.getElem?_eq_getElem (by omega)]; rfl
  · obtain ⟨lo, hi'⟩ := fr
    rw [World.frozen?_alloc_mark]
    rcases hf with h | h <;> (injection h with h1 h2; subst h1 h2; simp; try omega)

theorem getD_append_left (l m : List Nat) (i : Nat) (h : i < l.length) : (l ++ m).getD i 0 = l.getD i 0 := by unfold List.getD; rw [List.getElem?_append_left h]
theorem getD_append_right (l m : List Nat) (i : Nat) (h : l.length ≤ i) : (l ++ m).getD i 0 = m.getD (i - l.length) 0 := by unfold List.getD; rw [List.getElem?_append_right h]

/-- append, where there is room or not. -/
theorem app_own {w : World} {B g cap : Nat} {l : List Nat} (h : Own w B g cap l) (hB : B ≤ w.heap.size) {tx : TypeId} {x : Value} {m : List Nat} (hsrc : Src Tryd.prog 1 tx x m.length (bc m) w) (hsz : l.length + m.length ≤ 1000000000000) :
    ∃ g' cap' w', (∀ ty, (Builtin.append_ #[23, tx] ty #[.slice (some ⟨g, 0, none⟩) l.length cap, x]).run Tryd.prog w = .ok (.slice (some ⟨g', 0, none⟩) (l.length + m.length) cap') w') ∧ Own w' B g' cap' (l ++ m) ∧ Below B w w' := by
  obtain ⟨i0, hi, hz, hs, hby⟩ := infoU8
  rw [← hs] at hsrc
  by_cases hroom : l.length + m.length ≤ cap
  · refine ⟨g, cap, w.setCells g (0 + l.length * i0.size) (bc m), fun ty => run_append_room_src w 23 tx ty 5 i0 Tryd.underlying23 hi g 0 l.length cap x m.length (bc m) hsrc hroom (fun j hj => ?_) (fun j hj => ?_), ?_, below_setCells_w h.base _ _ _⟩
    · rw [bc_length] at hj; rw [hs, Nat.mul_one, Nat.zero_add]; exact h.rest _ (by omega) (by omega)
    · rw [bc_length] at hj; rw [hs, Nat.mul_one, Nat.zero_add]; exact h.free _ (by omega)
    · rw [hs, Nat.mul_one, Nat.zero_add]
      have hin := cell_setCells_in w g l.length (bc m) (fun j hj => by rw [bc_length] at hj; exact h.rest _ (by omega) (by omega))
      have hbl := below_setCells_w (B := 0) (Nat.zero_le g) (bc m) l.length w
      refine ⟨h.base, Nat.lt_of_lt_of_le h.lt hbl.size, by simp; omega, fun i hi' => ?_, fun i h1 h2 => ?_, fun i hi' => ?_⟩
      · simp at hi'
        by_cases hil : i < l.length
        · rw [cell_setCells_out w g l.length (bc m) i (Or.inl hil), getD_append_left _ _ _ hil]; exact h.cell i hil
        · have := hin (i - l.length) (by rw [bc_length]; omega)
          rw [show l.length + (i - l.length) = i by omega] at this
          rw [this, getD_append_right _ _ _ (by omega)]; exact bc_get m _ (by omega)
      · simp at h1
        rw [cell_setCells_out w g l.length (bc m) i (Or.inr (by rw [bc_length]; omega))]; exact h.rest i (by omega) h2
      · rw [World.frozen?_setCells]; exact h.free i hi'
  · have hold : (Builtin.firstCells i0.size l.length (.slice (some ⟨g, 0, none⟩) l.length cap)).run Tryd.prog w.drew = .ok (bc l).toArray w.drew := by
      rw [hs]
      exact run_firstCells_some w.drew 1 l.length ⟨g, 0, none⟩ l.length cap (bc l) (by rw [bc_length, Nat.mul_one]) (fun j u hj => by
        have hjl : j < l.length := by have := (List.getElem?_eq_some_iff.1 hj).1; rwa [bc_length] at this
        rw [bc_get _ _ hjl] at hj
        have hc := h.cell j hjl
        rw [← hj, Addr.add_lit, Nat.zero_add]; exact hc)
    have hgc : (l ++ m).length ≤ grownCap w (l.length + m.length) cap 5 := by
      rw [List.length_append]; exact grownCap_ge _ _ _ _
    refine ⟨w.heap.size, grownCap w (l.length + m.length) cap 5, _, fun ty => run_append_grow_src w 23 tx ty 5 i0 (.int .u8 0) Tryd.underlying23 hi hz (some ⟨g, 0, none⟩) l.length cap (bc l) hold x m.length (bc m) hsrc (by omega) (by omega) ?_, ?_, ?_⟩
    · exact growslice_fits (by omega) (by rw [hby]; omega)
    · refine (own_alloc w.drew (l ++ m) _ _ (0, 0) (Or.inl rfl) hgc ?_ (fun i hi' => ?_)).mono hB
      · rw [List.length_append] at hgc
        rw [Array.size_append, size_zeroCells]
        show (bc l ++ bc m).length + _ * 1 = _
        rw [List.length_append, bc_length, bc_length]; omega
      · have hl : i < (bc l ++ bc m).length := by rw [List.length_append, bc_length, bc_length, ← List.length_append]; exact hi'
        have e : bc l ++ bc m = bc (l ++ m) := by simp [bc]
        rw [Array.getElem?_append_left (by simpa using hl), e]
        simpa using bc_get (l ++ m) i hi'
    · exact (Below.refl B w).drew.alloc hB _
/-- The same with the lengths by name. -/
theorem app_own' {w : World} {B g cap n m k : Nat} {l l' : List Nat} (h : Own w B g cap l) (hn : l.length = n) (hm : l'.length = m) (hk : n + m = k) (hB : B ≤ w.heap.size) {tx : TypeId} {x : Value} (hsrc : Src Tryd.prog 1 tx x l'.length (bc l') w) (hsz : k ≤ 1000000000000) :
    ∃ g' cap' w', Hid (∀ ty, (Builtin.append_ #[23, tx] ty #[.slice (some ⟨g, 0, none⟩) n cap, x]).run Tryd.prog w = .ok (.slice (some ⟨g', 0, none⟩) k cap') w') ∧ Hid (Own w' B g' cap' (l ++ l')) ∧ Hid (Below B w w') := by
  subst hn hm hk; exact app_own h hB hsrc hsz
/-- append to a nil slice. -/
theorem app_nil (w : World) {tx : TypeId} {x : Value} {m : List Nat} (hsrc : Src Tryd.prog 1 tx x m.length (bc m) w) (hm : 0 < m.length) (hsz : m.length ≤ 1000000000000) :
    ∃ cap' w', (∀ ty, (Builtin.append_ #[23, tx] ty #[.slice none 0 0, x]).run Tryd.prog w = .ok (.slice (some ⟨w.heap.size, 0, none⟩) m.length cap') w') ∧ Own w' w.heap.size w.heap.size cap' m ∧ Below w.heap.size w w' := by
  obtain ⟨i0, hi, hz, hs, hby⟩ := infoU8
  rw [← hs] at hsrc
  have hold : (Builtin.firstCells i0.size 0 (.slice none 0 0)).run Tryd.prog w.drew = .ok ([] : List Value).toArray w.drew := run_firstCells_none w.drew i0.size 0 0 0
  have hrun := fun ty => run_append_grow_src w 23 tx ty 5 i0 (.int .u8 0) Tryd.underlying23 hi hz none 0 0 [] hold x m.length (bc m) hsrc (by omega) (by omega) (growslice_fits (by omega) (by rw [hby]; omega))
  simp only [Nat.zero_add] at hrun
  refine ⟨grownCap w m.length 0 5, _, hrun, ?_, (Below.refl _ w).drew.alloc (Nat.le_refl _) _⟩
  have hgc : m.length ≤ grownCap w m.length 0 5 := grownCap_ge _ _ _ _
  refine own_alloc w.drew m _ _ (0, 0) (Or.inl rfl) hgc ?_ (fun i hi' => ?_)
  · rw [Array.size_append, size_zeroCells]
    show (bc m).length + _ * 1 = _
    rw [bc_length]; omega
  · rw [Array.getElem?_append_left (by simpa [bc_length] using hi')]
    simpa using bc_get m i hi'

/-- A string's bytes. -/
def bs (s : ByteArray) : List Nat := s.data.toList.map UInt8.toNat
theorem bs_length (s : ByteArray) : (bs s).length = s.size := by simp [bs]
theorem bs_lt (s : ByteArray) : ∀ x ∈ bs s, x < 256 := fun x hx => by
  obtain ⟨u, _, rfl⟩ := List.mem_map.1 hx
  exact UInt8.toNat_lt _
theorem src_str (w : World) (s : ByteArray) : Src Tryd.prog 1 9 (.string s) (bs s).length (bc (bs s)) w := by
  have h := Src.ofString (P := Tryd.prog) w (tx := 9) Tryd.underlying9 s
  have e : byteCells s = bc (bs s) := by simp [byteCells, bc, bs]
  rw [e, ← bs_length] at h; exact h
theorem src_cells (w : World) (b off cap : Nat) (m : List Nat) (hc : ∀ i, i < m.length → w.cell? ⟨b, off + i, none⟩ = some (.int .u8 (m.getD i 0 : Nat))) : Src Tryd.prog 1 23 (.slice (some ⟨b, off, none⟩) m.length cap) m.length (bc m) w :=
  Src.ofSlice w Tryd.underlying23 ⟨b, off, none⟩ m.length cap (bc m) (by rw [bc_length, Nat.mul_one]) (fun j u hj => by
    have hjl : j < m.length := by have := (List.getElem?_eq_some_iff.1 hj).1; rwa [bc_length] at this
    rw [bc_get _ _ hjl] at hj
    rw [← hj, Addr.add_lit]; exact hc j hjl) (bc_one m)
theorem src_own {w : World} {B g cap : Nat} {m : List Nat} (h : Own w B g cap m) : Src Tryd.prog 1 23 (.slice (some ⟨g, 0, none⟩) m.length cap) m.length (bc m) w :=
  src_cells w g 0 cap m (fun i hi => by rw [Nat.zero_add]; exact h.cell i hi)
theorem src_one (w : World) (x : Nat) : Src Tryd.prog 1 23 (.slice (some ⟨w.heap.size, 0, none⟩) 1 1) 1 (bc [x]) (w.alloc (.cells #[.int .u8 (x : Nat)] 5)) :=
  src_cells (w.alloc (.cells #[.int .u8 (x : Nat)] 5)) w.heap.size 0 1 [x] (fun i hi => by
    simp at hi; subst hi; simp [World.cell?_alloc_at])

/-- The append in a walk: by its run. -/
theorem wpList_app {P : Program} {w : World} {ops : Array Oper} {rest : List Oper} {o : Oper} {a : Act} {Q : Exit → Act → World → Prop}
    (hg : o.guard = none) (s x : Operand) (t tx : TypeId) (hop : o.op = Op.call { callee := Callee.builtin Builtin.append, args := #[s, x], argTypes := #[t, tx] })
    {vs vx v' : Value} {w' : World} (hs : a.eval s = vs) (hx : a.eval x = vx) (hrun : ∀ ty, (Builtin.append_ #[t, tx] ty #[vs, vx]).run P w = .ok v' w')
    (hK : wpList P ops Q rest (a.put o.dst v') w') : wpList P ops Q (o :: rest) a w := by
  refine wpList_plain hg fun K hK' => ?_
  unfold Oper.wp
  simp [execOp, hop, resolve, invoke, builtin, hs, hx, hrun, Result.andThen]
  exact hK' _ _ hK
end Go.Proofs.YtmmkbaaodebafaaDoor
