import Derived.Test.YtmmkbaaodebafaaDoorRows
import Derived.WalkKit
import Derived.WalkLawsBesides
import Derived.Handy
import Derived.LaidLaws
import Derived.LaidEql
import Derived.Stop.LaidErr
namespace Go.Proofs.YtmmkbaaodebafaaDoor
open Go.RowKit

/-- The sentinels' variables. -/
def gn : Nat → Nat
  | 0 => 0
  | 1 => 1
  | 2 => 2
  | 3 => 3
  | _ => 4
/-- They hold pointers to rows of their own. -/
structure Sen (n : Nat) (w : World) (a : Nat → Addr) : Prop where
  g : ∀ i, i < n → w.cell? ⟨gn i, 0, none⟩ = some (.iface 114 (.pointer (some (a i))))
  row : ∀ i, i < n → ∃ c t, w.heap[(a i).block]? = some (.cells c t (0, 0))
  ne : ∀ i j, i < n → j < n → i ≠ j → a i ≠ a j

theorem cell_lt {w : World} {p : Addr} {v : Value} (h : w.cell? p = some v) : p.block < w.heap.size := by
  rcases Nat.lt_or_ge p.block w.heap.size with h' | h'
  · exact h'
  · simp [World.cell?, Array.getElem?_eq_none h'] at h
theorem Sen.lt {n : Nat} {w : World} {a : Nat → Addr} (h : Sen n w a) {i : Nat} (hi : i < n) : gn i < w.heap.size := cell_lt (h.g i hi)
theorem Sen.g0 {n : Nat} {w : World} {a : Nat → Addr} (h : Sen n w a) (hn : 0 < n) : w.cell? ⟨0, 0, none⟩ = some (.iface 114 (.pointer (some (a 0)))) := h.g 0 hn
theorem Sen.l0 {n : Nat} {w : World} {a : Nat → Addr} (h : Sen n w a) (hn : 0 < n) : 0 < w.heap.size := h.lt hn
theorem Sen.g1 {n : Nat} {w : World} {a : Nat → Addr} (h : Sen n w a) (hn : 1 < n) : w.cell? ⟨1, 0, none⟩ = some (.iface 114 (.pointer (some (a 1)))) := h.g 1 hn
theorem Sen.l1 {n : Nat} {w : World} {a : Nat → Addr} (h : Sen n w a) (hn : 1 < n) : 1 < w.heap.size := h.lt hn
theorem Sen.g2 {n : Nat} {w : World} {a : Nat → Addr} (h : Sen n w a) (hn : 2 < n) : w.cell? ⟨2, 0, none⟩ = some (.iface 114 (.pointer (some (a 2)))) := h.g 2 hn
theorem Sen.l2 {n : Nat} {w : World} {a : Nat → Addr} (h : Sen n w a) (hn : 2 < n) : 2 < w.heap.size := h.lt hn
theorem Sen.g3 {n : Nat} {w : World} {a : Nat → Addr} (h : Sen n w a) (hn : 3 < n) : w.cell? ⟨3, 0, none⟩ = some (.iface 114 (.pointer (some (a 3)))) := h.g 3 hn
theorem Sen.l3 {n : Nat} {w : World} {a : Nat → Addr} (h : Sen n w a) (hn : 3 < n) : 3 < w.heap.size := h.lt hn
theorem Sen.g4 {n : Nat} {w : World} {a : Nat → Addr} (h : Sen n w a) (hn : 4 < n) : w.cell? ⟨4, 0, none⟩ = some (.iface 114 (.pointer (some (a 4)))) := h.g 4 hn
theorem Sen.l4 {n : Nat} {w : World} {a : Nat → Addr} (h : Sen n w a) (hn : 4 < n) : 4 < w.heap.size := h.lt hn
theorem Sen.alt {n : Nat} {w : World} {a : Nat → Addr} (h : Sen n w a) {i : Nat} (hi : i < n) : (a i).block < w.heap.size := by
  obtain ⟨c, t, hr⟩ := h.row i hi
  rcases Nat.lt_or_ge (a i).block w.heap.size with h' | h'
  · exact h'
  · simp [Array.getElem?_eq_none h'] at hr
theorem Sen.on {n : Nat} {w w' : World} {a : Nat → Addr} (h : Sen n w a) {B : Nat} (hb : Below B w w') (hB : w.heap.size ≤ B) : Sen n w' a :=
  ⟨fun i hi => (hb.cell (p := ⟨gn i, 0, none⟩) (Nat.lt_of_lt_of_le (h.lt hi) hB)).trans (h.g i hi),
   fun i hi => by obtain ⟨c, t, hr⟩ := h.row i hi; exact ⟨c, t, (hb.block _ (Nat.lt_of_lt_of_le (h.alt hi) hB)).trans hr⟩, h.ne⟩

theorem gS : Tryd.prog.globalNamed "journal/api.ErrStream" = some 0 := by kernel_rfl
theorem gB : Tryd.prog.globalNamed "journal/api.ErrBatch" = some 1 := by kernel_rfl
theorem gD : Tryd.prog.globalNamed "journal/api.ErrData" = some 2 := by kernel_rfl
theorem gC : Tryd.prog.globalNamed "journal/api.ErrClosed" = some 3 := by kernel_rfl
theorem gF : Tryd.prog.globalNamed "journal/api.ErrFailed" = some 4 := by kernel_rfl
theorem tS : (Tryd.prog.globals[0]?).map (·.type) = some 45 := by kernel_rfl
theorem tB : (Tryd.prog.globals[1]?).map (·.type) = some 45 := by kernel_rfl
theorem tD : (Tryd.prog.globals[2]?).map (·.type) = some 45 := by kernel_rfl
theorem tC : (Tryd.prog.globals[3]?).map (·.type) = some 45 := by kernel_rfl
theorem tF : (Tryd.prog.globals[4]?).map (·.type) = some 45 := by kernel_rfl
theorem star : "*errors.errorString" = "*" ++ "errors.errorString" := by kernel_rfl
theorem rowE : ∀ u, Tryd.prog.typeName? 3 u = some "*errors.errorString" → u = 114 := fun u h =>
  typeName_ptr_named (nm := "errors.errorString") (by rw [← star]; kernel_rfl) (by kernel_rfl) (by decide) u (by rw [← star]; exact h)
theorem cells1 : Tryd.prog.cellsOf 138 = 1 := by kernel_rfl
theorem cells2 : Tryd.prog.cellsOf 9 = 1 := by kernel_rfl

set_option maxRecDepth 100000 in
/-- One sentinel out of what is laid. -/
theorem sent1 {W : World} {ps : List MemPlace} {g : Nat} {n : String} {text : List UInt8} {r : List (String × DataW Unit)}
    (hg : Tryd.prog.globalNamed n = some g) (ht : (Tryd.prog.globals[g]?).map (·.type) = some 45)
    (h : DataW.LaidVars Tryd.prog W ((n, .iface "*errors.errorString" (.ptr (.agg [.lit (.string text)]))) :: r) ps)
    (hrows : ∀ b off, MemPlace.cell b off ∈ ps → (∃ c t, W.heap[b]? = some (.cells c t (0, 0))) ∧ ∀ u v, W.cell? ⟨b, off, none⟩ = some (.iface u v) → Value.okWide Tryd.prog W .any 0 u v) :
    ∃ a q, W.cell? ⟨g, 0, none⟩ = some (.iface 114 (.pointer (some a))) ∧ (∃ c t, W.heap[a.block]? = some (.cells c t (0, 0))) ∧ DataW.LaidVars Tryd.prog W r q ∧ ps = .cell g 0 :: .cell a.block a.off :: q := by
  obtain ⟨g0, t0, cs0, f0, p0, q0, hg0, ht0, hv0, hd0, hq0, e0⟩ := h
  obtain rfl := Option.some.inj (hg.symm.trans hg0)
  obtain rfl := Option.some.inj (ht.symm.trans ht0)
  subst e0
  obtain ⟨l0⟩ := cs0
  have ok0 : ∀ u v, l0 = [.iface u v] → Value.okWide Tryd.prog W .any 0 u v := fun u v e => by
    subst e
    exact (hrows g 0 (by simp [MemPlace.row])).2 u v (by simpa using World.var?_cell hg0 hv0 0)
  obtain ⟨a0, s0, rfl, hc0, hs0, hz0, rfl⟩ := errorString_of_trod Tryd.underlying45 rowE Tryd.underlying114 Tryd.underlying138 rfl rfl Tryd.underlying9 cells1 cells2 hd0 ok0
  exact ⟨a0, q0, by simpa using World.var?_cell hg0 hv0 0, (hrows a0.block a0.off (by simp [MemPlace.row])).1, hq0, rfl⟩
theorem addr_ne {a b : Addr} (h : MemPlace.cell a.block a.off ≠ MemPlace.cell b.block b.off) : a ≠ b := fun e => h (by rw [e])

abbrev txt (l : List UInt8) : DataW Unit := .iface "*errors.errorString" (.ptr (.agg [.lit (.string l)]))
/-- Three of them. -/
theorem sents3 {W : World} {t0 t1 t2 : List UInt8} (h : laidMet Tryd.prog [("journal/api.ErrStream", txt t0), ("journal/api.ErrBatch", txt t1), ("journal/api.ErrData", txt t2)] W) : ∃ a, Sen 3 W a := by
  obtain ⟨ps, hl, hnd, hrows⟩ := h
  obtain ⟨a0, q0, c0, r0, hl0, rfl⟩ := sent1 gS tS hl hrows
  obtain ⟨a1, q1, c1, r1, hl1, rfl⟩ := sent1 gB tB hl0 (fun b off hm => hrows b off (by simp [hm]))
  obtain ⟨a2, q2, c2, r2, hl2, rfl⟩ := sent1 gD tD hl1 (fun b off hm => hrows b off (by simp [hm]))
  simp only [List.nodup_cons, List.mem_cons, not_or] at hnd
  obtain ⟨-, ⟨-, n01, -, n02, -⟩, -, ⟨-, n12, -⟩, -⟩ := hnd
  refine ⟨fun i => match i with | 0 => a0 | 1 => a1 | _ => a2, ⟨fun i hi => ?_, fun i hi => ?_, fun i j hi hj hij => ?_⟩⟩
  · match i, hi with
    | 0, _ => exact c0
    | 1, _ => exact c1
    | 2, _ => exact c2
  · match i, hi with
    | 0, _ => exact r0
    | 1, _ => exact r1
    | 2, _ => exact r2
  · match i, j, hi, hj with
    | 0, 0, _, _ | 1, 1, _, _ | 2, 2, _, _ => exact absurd rfl hij
    | 0, 1, _, _ => exact addr_ne n01
    | 0, 2, _, _ => exact addr_ne n02
    | 1, 2, _, _ => exact addr_ne n12
    | 1, 0, _, _ => exact (addr_ne n01).symm
    | 2, 0, _, _ => exact (addr_ne n02).symm
    | 2, 1, _, _ => exact (addr_ne n12).symm
/-- All five. -/
theorem sents5 {W : World} {t0 t1 t2 t3 t4 : List UInt8} (h : laidMet Tryd.prog [("journal/api.ErrStream", txt t0), ("journal/api.ErrBatch", txt t1), ("journal/api.ErrData", txt t2), ("journal/api.ErrClosed", txt t3), ("journal/api.ErrFailed", txt t4)] W) : ∃ a, Sen 5 W a := by
  obtain ⟨ps, hl, hnd, hrows⟩ := h
  obtain ⟨a0, q0, c0, r0, hl0, rfl⟩ := sent1 gS tS hl hrows
  obtain ⟨a1, q1, c1, r1, hl1, rfl⟩ := sent1 gB tB hl0 (fun b off hm => hrows b off (by simp [hm]))
  obtain ⟨a2, q2, c2, r2, hl2, rfl⟩ := sent1 gD tD hl1 (fun b off hm => hrows b off (by simp [hm]))
  obtain ⟨a3, q3, c3, r3, hl3, rfl⟩ := sent1 gC tC hl2 (fun b off hm => hrows b off (by simp [hm]))
  obtain ⟨a4, q4, c4, r4, hl4, rfl⟩ := sent1 gF tF hl3 (fun b off hm => hrows b off (by simp [hm]))
  simp only [List.nodup_cons, List.mem_cons, not_or] at hnd
  obtain ⟨-, ⟨-, n01, -, n02, -, n03, -, n04, -⟩, -, ⟨-, n12, -, n13, -, n14, -⟩, -, ⟨-, n23, -, n24, -⟩, -, ⟨-, n34, -⟩, -⟩ := hnd
  refine ⟨fun i => match i with | 0 => a0 | 1 => a1 | 2 => a2 | 3 => a3 | _ => a4, ⟨fun i hi => ?_, fun i hi => ?_, fun i j hi hj hij => ?_⟩⟩
  · match i, hi with
    | 0, _ => exact c0
    | 1, _ => exact c1
    | 2, _ => exact c2
    | 3, _ => exact c3
    | 4, _ => exact c4
  · match i, hi with
    | 0, _ => exact r0
    | 1, _ => exact r1
    | 2, _ => exact r2
    | 3, _ => exact r3
    | 4, _ => exact r4
  · match i, j, hi, hj with
    | 0, 0, _, _ | 1, 1, _, _ | 2, 2, _, _ | 3, 3, _, _ | 4, 4, _, _ => exact absurd rfl hij
    | 0, 1, _, _ => exact addr_ne n01
    | 0, 2, _, _ => exact addr_ne n02
    | 0, 3, _, _ => exact addr_ne n03
    | 0, 4, _, _ => exact addr_ne n04
    | 1, 2, _, _ => exact addr_ne n12
    | 1, 3, _, _ => exact addr_ne n13
    | 1, 4, _, _ => exact addr_ne n14
    | 2, 3, _, _ => exact addr_ne n23
    | 2, 4, _, _ => exact addr_ne n24
    | 3, 4, _, _ => exact addr_ne n34
    | 1, 0, _, _ => exact (addr_ne n01).symm
    | 2, 0, _, _ => exact (addr_ne n02).symm
    | 3, 0, _, _ => exact (addr_ne n03).symm
    | 4, 0, _, _ => exact (addr_ne n04).symm
    | 2, 1, _, _ => exact (addr_ne n12).symm
    | 3, 1, _, _ => exact (addr_ne n13).symm
    | 4, 1, _, _ => exact (addr_ne n14).symm
    | 3, 2, _, _ => exact (addr_ne n23).symm
    | 4, 2, _, _ => exact (addr_ne n24).symm
    | 4, 3, _, _ => exact (addr_ne n34).symm

/-! '==' of two error values -/
theorem infoE : ∃ i j, Tryd.prog.info? 114 = some i ∧ i.comparable = true ∧ Tryd.prog.info? 138 = some j ∧ j.size ≠ 0 := by
  have h1 : (Tryd.prog.info? 114).map (·.comparable) = some true := by kernel_rfl
  have h2 : (Tryd.prog.info? 138).map (·.size) = some 1 := by kernel_rfl
  obtain ⟨i, hi, h3⟩ := Option.map_eq_some_iff.1 h1
  obtain ⟨j, hj, h4⟩ := Option.map_eq_some_iff.1 h2
  exact ⟨i, j, hi, h3, hj, by omega⟩
theorem eqlE_same (w : World) (a : Addr) : (binOp .eql 45 (.iface 114 (.pointer (some a))) (.iface 114 (.pointer (some a)))).run Tryd.prog w = .ok (.bool true) w := by
  obtain ⟨i, j, hi, hc, hj, hz⟩ := infoE
  exact run_eql_iface_ptr_same w a Tryd.underlying45 Tryd.underlying114 hi hc hj
theorem Sen.eql {n : Nat} {w : World} {a : Nat → Addr} (h : Sen n w a) (x y : Nat) (hx : x < n) (hy : y < n) (hxy : x ≠ y) :
    (binOp .eql 45 (.iface 114 (.pointer (some (a x)))) (.iface 114 (.pointer (some (a y))))).run Tryd.prog w = .ok (.bool false) w := by
  obtain ⟨i, j, hi, hc, hj, hz⟩ := infoE
  obtain ⟨c1, t1, r1⟩ := h.row x hx
  obtain ⟨c2, t2, r2⟩ := h.row y hy
  exact run_eql_iface_ptr_other w Tryd.underlying45 Tryd.underlying114 hi hc hj hz (h.ne x y hx hy hxy) r1 r2
end Go.Proofs.YtmmkbaaodebafaaDoor
