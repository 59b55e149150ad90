import Derived.Test.YtploagfjajlloaaGreatDoorByt
import Derived.WalkKit
import Derived.WalkLawsBesides
import Derived.Handy
import Derived.Maps.AppendAt
import Derived.Deep.RegionLaw
namespace Go.Proofs.YtploagfjajlloaaGreatDoor
open Go.RowKit

/-- What F does not hold stays. -/
structure Kp (F : Nat → Prop) (w w' : World) : Prop where
  os : w'.os = w.os
  tape : w'.tape = w.tape
  output : w'.output = w.output
  size : w.heap.size ≤ w'.heap.size
  block : ∀ k, k < w.heap.size → ¬ F k → w'.heap[k]? = w.heap[k]?
theorem Kp.refl (F : Nat → Prop) (w : World) : Kp F w w := ⟨rfl, rfl, rfl, Nat.le_refl _, fun _ _ _ => rfl⟩
theorem Kp.trans {F : Nat → Prop} {a b c : World} (h : Kp F a b) (k : Kp F b c) : Kp F a c :=
  ⟨k.os.trans h.os, k.tape.trans h.tape, k.output.trans h.output, Nat.le_trans h.size k.size, fun i hi hn => (k.block i (Nat.lt_of_lt_of_le hi h.size) hn).trans (h.block i hi hn)⟩
theorem Kp.mono {F G : Nat → Prop} {w w' : World} (h : Kp F w w') (hG : ∀ k, k < w.heap.size → F k → G k) : Kp G w w' :=
  ⟨h.os, h.tape, h.output, h.size, fun k hk hn => h.block k hk fun hF => hn (hG k hk hF)⟩
/-- A second stretch whose own blocks are F's or new. -/
theorem Kp.andThen {F G : Nat → Prop} {a b c : World} (h : Kp F a b) (k : Kp G b c) (hG : ∀ i, i < a.heap.size → G i → F i) : Kp F a c :=
  ⟨k.os.trans h.os, k.tape.trans h.tape, k.output.trans h.output, Nat.le_trans h.size k.size, fun i hi hn => (k.block i (Nat.lt_of_lt_of_le hi h.size) fun hg => hn (hG i hi hg)).trans (h.block i hi hn)⟩
theorem Kp.of_below {F : Nat → Prop} {B : Nat} {w w' : World} (h : Below B w w') (hF : ∀ k, B ≤ k → k < w.heap.size → F k) : Kp F w w' :=
  ⟨h.os, h.tape, h.output, h.size, fun k hk hn => h.block k (Nat.lt_of_not_le fun hb => hn (hF k hb hk))⟩
theorem Kp.of_new {F : Nat → Prop} {w w' : World} (h : Below w.heap.size w w') : Kp F w w' := Kp.of_below h fun _ h1 h2 => absurd h2 (Nat.not_lt.2 h1)
theorem Kp.below {F : Nat → Prop} {B : Nat} {w w' : World} (h : Kp F w w') (hF : ∀ k, F k → B ≤ k) (hB : B ≤ w.heap.size) : Below B w w' :=
  ⟨h.os, h.tape, h.output, h.size, fun k hk => h.block k (Nat.lt_of_lt_of_le hk hB) fun hf => absurd (hF k hf) (Nat.not_le.2 hk)⟩
theorem Kp.cell {F : Nat → Prop} {w w' : World} {p : Addr} {v : Value} (h : Kp F w w') (hn : ¬ F p.block) (hc : w.cell? p = some v) : w'.cell? p = some v :=
  (World.cell?_of_block (h.block p.block (World.block_lt_of_cell? w p hc) hn)).trans hc
theorem Kp.obj {F : Nat → Prop} {w w' : World} {k : Nat} {o : Obj} (h : Kp F w w') (hn : ¬ F k) (hc : w.heap[k]? = some o) : w'.heap[k]? = some o :=
  (h.block k (Array.getElem?_eq_some_iff.1 hc).1 hn).trans hc
theorem Kp.of_grown {F : Nat → Prop} {w w' : World} {row : Option Nat} (h : w.grownBy w' row) (hF : ∀ k, row = some k → k < w.heap.size → F k) : Kp F w w' :=
  ⟨h.os, h.tape, h.output, h.size, fun k hk hn => h.block k hk fun e => hn (hF k e.symm hk)⟩
theorem below_obj {B k : Nat} {w w' : World} {o : Obj} (h : Below B w w') (hk : k < B) (hc : w.heap[k]? = some o) : w'.heap[k]? = some o := (h.block k hk).trans hc
theorem heap_lt {w : World} {k : Nat} {o : Obj} (h : w.heap[k]? = some o) : k < w.heap.size := (Array.getElem?_eq_some_iff.1 h).1
theorem cell_obj {w : World} {k i : Nat} {c : Array Value} {t : TypeId} {fr : Nat × Nat} (h : w.heap[k]? = some (.cells c t fr)) : w.cell? ⟨k, i, none⟩ = c[i]? := by simp [World.cell?, h]
theorem frozen_obj {w : World} {k i : Nat} {c : Array Value} {t : TypeId} (h : w.heap[k]? = some (.cells c t (0, 0))) : w.frozen? ⟨k, i, none⟩ = false := by simp [World.frozen?, h]
theorem obj_setCell_other {w : World} {k : Nat} {a : Addr} {v : Value} (hne : k ≠ a.block) : (w.setCell a v).heap[k]? = w.heap[k]? := by
  unfold World.setCell
  simp [Array.getElem?_modify, Ne.symm hne]
theorem obj_setCell_same {w : World} {k i : Nat} {c : Array Value} {t : TypeId} {fr : Nat × Nat} {v : Value} (h : w.heap[k]? = some (.cells c t fr)) : (w.setCell ⟨k, i, none⟩ v).heap[k]? = some (.cells (c.setIfInBounds i v) t fr) := by
  unfold World.setCell
  simp [Array.getElem?_modify, h]
theorem size_setCell {w : World} {a : Addr} {v : Value} : (w.setCell a v).heap.size = w.heap.size := by simp [World.setCell]
theorem Kp.setCell {F : Nat → Prop} {w w' : World} (h : Kp F w w') {a : Addr} (ha : a.block < w.heap.size → F a.block) (v : Value) : Kp F w (w'.setCell a v) :=
  ⟨h.os, h.tape, h.output, by rw [size_setCell]; exact h.size, fun k hk hn => by
    rw [obj_setCell_other (fun e => hn (by rw [e]; exact ha (by rw [← e]; exact hk)))]; exact h.block k hk hn⟩
theorem obj_alloc {w : World} {k : Nat} {o o' : Obj} (h : w.heap[k]? = some o) : (w.alloc o').heap[k]? = some o :=
  below_obj ((Below.refl w.heap.size w).alloc (Nat.le_refl _) o') (heap_lt h) h
theorem obj_new (w : World) (o : Obj) : (w.alloc o).heap[w.heap.size]? = some o := (MapKept.heap_alloc w o).1
theorem Kp.alloc {F : Nat → Prop} {w w' : World} (h : Kp F w w') (o : Obj) : Kp F w (w'.alloc o) := h.trans (Kp.of_new ((Below.refl _ _).alloc (Nat.le_refl _) o))
theorem Kp.drew {F : Nat → Prop} {w w' : World} (h : Kp F w w') : Kp F w w'.drew := h.trans (Kp.of_new (Below.refl _ _).drew)

theorem row_on {F : Nat → Prop} {w w' : World} {B : Nat} {e : TypeId} {size : Nat} {v : Value} {n : Nat} {xs : List Value} (h : w.ownsRow B e size v n xs) (hk : Kp F w w') (hF : ∀ k, v.ownBlock = some k → ¬ F k) : w'.ownsRow B e size v n xs := by
  refine ⟨h.1, ?_⟩
  rcases h.2 with hn | ⟨g, cap, cur, rfl, hb, hg, r⟩
  · exact .inl hn
  · exact .inr ⟨g, cap, cur, rfl, hb, hk.obj (hF g rfl) hg, r⟩
theorem row_on' {w w' : World} {B C : Nat} {e : TypeId} {size : Nat} {v : Value} {n : Nat} {xs : List Value} (h : w.ownsRow B e size v n xs) (hk : Below C w w') (hC : ∀ k, v.ownBlock = some k → k < C) : w'.ownsRow B e size v n xs := by
  refine ⟨h.1, ?_⟩
  rcases h.2 with hn | ⟨g, cap, cur, rfl, hb, hg, r⟩
  · exact .inl hn
  · exact .inr ⟨g, cap, cur, rfl, hb, below_obj hk (hC g rfl) hg, r⟩
/-- The shape of such a value. -/
theorem row_shape {w : World} {B : Nat} {e : TypeId} {size : Nat} {v : Value} {n : Nat} {xs : List Value} (h : w.ownsRow B e size v n xs) :
    ∃ p cap, v = .slice p n cap ∧ n ≤ cap ∧ cap ≤ maxLen ∧ (0 < n → ∃ g, p = some ⟨g, 0, none⟩ ∧ v.ownBlock = some g ∧ g < w.heap.size ∧ ∀ j, j < n * size → w.cell? ⟨g, j, none⟩ = xs[j]?) := by
  obtain ⟨hl, hn | ⟨g, cap, cur, rfl, hb, hg, h1, h2, h3, h4⟩⟩ := h
  · obtain ⟨rfl, rfl⟩ := hn
    exact ⟨none, 0, rfl, by omega, by unfold maxLen; omega, fun h => by omega⟩
  · refine ⟨_, cap, rfl, h1, h2, fun _ => ⟨g, rfl, rfl, heap_lt hg, fun j hj => ?_⟩⟩
    rw [cell_obj hg, ← h4, List.getElem?_take, if_pos hj]; simp

/-- The bytes c in a row of bytes at block g. -/
structure BS (w : World) (v : Value) (g : Nat) (c : ByteArray) : Prop where
  shape : ∃ off cap, v = .slice (some ⟨g, off, none⟩) c.size cap ∧ c.size ≤ cap ∧ cap ≤ 9223372036854775807 ∧ ∀ i, i < c.size → w.cell? ⟨g, off + i, none⟩ = some (.int .u8 (byt c i : Nat))
  tag : ∃ C fr, w.heap[g]? = some (.cells C 5 fr)
theorem BS.lt {w : World} {v : Value} {g : Nat} {c : ByteArray} (h : BS w v g c) : g < w.heap.size := by
  obtain ⟨C, fr, h⟩ := h.tag; exact heap_lt h
theorem BS.of_same {w w' : World} {v : Value} {g : Nat} {c : ByteArray} (h : BS w v g c) (hb : w'.heap[g]? = w.heap[g]?) : BS w' v g c := by
  obtain ⟨off, cap, h1, h2, h3, h4⟩ := h.shape
  obtain ⟨C, fr, h5⟩ := h.tag
  exact ⟨⟨off, cap, h1, h2, h3, fun i hi => (World.cell?_of_block hb).trans (h4 i hi)⟩, C, fr, hb.trans h5⟩
theorem BS.on {F : Nat → Prop} {w w' : World} {v : Value} {g : Nat} {c : ByteArray} (h : BS w v g c) (hk : Kp F w w') (hF : ¬ F g) : BS w' v g c := h.of_same (hk.block g h.lt hF)
theorem BS.on' {w w' : World} {v : Value} {g C : Nat} {c : ByteArray} (h : BS w v g c) (hk : Below C w w') (hC : g < C) : BS w' v g c := h.of_same (hk.block g hC)

/-- append as one step of a region that draws, by its run. -/
theorem step_app {P : Program} {ops : Array Oper} {o : Oper} {a : Act} {w : World} {K : Act → World → Prop} {Q : Exit → Act → World → Prop} {E : Prop}
    (hg : o.guard = none) (s x : Operand) (t tx : TypeId) (hop : o.op = Op.call { callee := Callee.builtin Builtin.append, args := #[s, x], argTypes := #[t, tx] })
    {vs vx v' : Value} {w' : World} (hs : a.eval s = vs) (hx : a.eval x = vx) (hrun : ∀ ty, (Builtin.append_ #[t, tx] ty #[vs, vx]).run P w = .ok v' w') (hK : K (a.put o.dst v') w') :
    if Region.wanted o (yielded ops a.tmps) = true then Oper.wp P o a w K Q else E := by
  have hw : Region.wanted o (yielded ops a.tmps) = true := by simp [Region.wanted, hg]
  rw [if_pos hw]
  unfold Oper.wp
  simp [execOp, hop, resolve, invoke, builtin, hs, hx, hrun, Result.andThen]
  exact hK
end Go.Proofs.YtploagfjajlloaaGreatDoor
