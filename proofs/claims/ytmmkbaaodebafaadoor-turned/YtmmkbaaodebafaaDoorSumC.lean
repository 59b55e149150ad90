import Derived.Test.YtmmkbaaodebafaaDoorRsum
import Derived.Test.YtmmkbaaodebafaaDoorEvErr
import Derived.Test.YtmmkbaaodebafaaDoorConv
namespace Go.Proofs.YtmmkbaaodebafaaDoor
open Go.RowKit Jr

theorem range_getD (l : List Nat) : (List.range l.length).map (fun i => l.getD i 0) = l := by
  apply List.ext_getElem
  · simp
  · intro i h1 h2; simp at h1; simp [List.getD, h1]
theorem fz_list (l : List Nat) : 4294967295 ^^^ fz (fun i => l.getD i 0) l.length = crc l := by
  unfold fz crc; rw [range_getD]
theorem getD_lt {l : List Nat} (h : ∀ x ∈ l, x < 256) (i : Nat) (hi : i < l.length) : l.getD i 0 < 256 := by
  simp [List.getD, hi]; exact h _ (List.getElem_mem hi)
theorem jsum_cells (b off n cap : Nat) (l : List Nat) (w : World) (hn : l.length = n) (hl : n ≤ maxLen) (hz : ∀ x ∈ l, x < 256) (hc : ∀ i, i < n → w.cell? ⟨b, off + i, none⟩ = some (.int .u8 (l.getD i 0 : Nat))) :
    Calls Tryd.prog 31 #[.slice (some ⟨b, off, none⟩) n cap] w fun e w' => e = .returned (.int .u32 (crc l : Nat)) ∧ w' = w := by
  subst hn
  have h := jsum b off l.length cap (fun i => l.getD i 0) w hl (fun i hi => getD_lt hz i hi) hc
  rw [fz_list] at h; exact h
theorem may_zero {st d : ByteArray} {v p : Int} (h : may st d v p = 0) : st.size ≠ 0 ∧ st.size ≤ 12 ∧ d.size ≤ 24 ∧ 1 ≤ v ∧ 0 ≤ p := by
  rcases may_cases st d v p with ⟨_, h'⟩ | ⟨_, _, h'⟩ | ⟨_, _, _, h'⟩ | ⟨_, _, _, _, h'⟩ | ⟨_, _, _, _, _, h'⟩ | ⟨h1, h2, h3, h4, h5, _⟩
  all_goals first | omega | (rw [h] at h'; cases h')

/-- An event of the document's in memory. -/
def PBox (W : World) (b : Nat) (v p : Int) (st d : ByteArray) : Prop :=
  W.cell? ⟨b, 0, none⟩ = some (.string st) ∧ W.cell? ⟨b, 1, none⟩ = some (.int .i64 v) ∧ W.cell? ⟨b, 2, none⟩ = some (.int .i64 p) ∧ W.cell? ⟨b, 3, none⟩ = some (.string d)
theorem PBox.on {W W' : World} {b : Nat} {v p : Int} {st d : ByteArray} (h : PBox W b v p st d) {B : Nat} (hb : Below B W W') (hB : b < B) : PBox W' b v p st d :=
  ⟨(hb.cell hB).trans h.1, (hb.cell hB).trans h.2.1, (hb.cell hB).trans h.2.2.1, (hb.cell hB).trans h.2.2.2⟩
theorem pbox_alloc (w : World) (v p : Int) (st d : ByteArray) (t : TypeId) : PBox (w.alloc (.cells (pev st v p d) t)) w.heap.size v p st d := by
  refine ⟨?_, ?_, ?_, ?_⟩ <;> simp [World.cell?_alloc_at]
theorem own_one (w : World) (x : Nat) : Own (w.alloc (.cells #[.int .u8 (x : Nat)] 5)) w.heap.size w.heap.size 1 [x] :=
  own_alloc w [x] _ 1 (0, 0) (Or.inl rfl) (by simp) (by simp) (fun i hi => by simp at hi; subst hi; simp)
theorem rsum_cells (b off n cap : Nat) (l : List Nat) (w : World) (hn : l.length = n) (hl : n ≤ maxLen) (hz : ∀ x ∈ l, x < 256) (hc : ∀ i, i < n → w.cell? ⟨b, off + i, none⟩ = some (.int .u8 (l.getD i 0 : Nat))) :
    Calls Tryd.prog 21 #[.slice (some ⟨b, off, none⟩) n cap] w fun e w' => e = .returned (.int .u32 (crc l : Nat)) ∧ w' = w := by
  subst hn
  have h := rsum b off l.length cap (fun i => l.getD i 0) w hl (fun i hi => getD_lt hz i hi) hc
  rw [fz_list] at h; exact h
end Go.Proofs.YtmmkbaaodebafaaDoor
