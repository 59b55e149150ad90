import Derived.Test.YtploagfjajlloaaGreatDoorOwX
import Derived.Test.YtploagfjajlloaaGreatDoorTie
import Derived.Test.YtploagfjajlloaaGreatDoorCards
import Derived.ProofKit
import Derived.OpenShut
import Derived.ShutString
import Derived.LaidMore
import Derived.LaidSub
import Derived.LaidHandle
import Derived.SevenTiedAt
import Derived.SizedLaws
import Derived.WideKeyArgs
import Derived.Deep.SlicePairs
namespace Go.Proofs.YtploagfjajlloaaGreatDoor
open Go.ChangeShapes Go.WideShapes Go.ChangeAt Go.RowKit

theorem cell_plain {w : World} {a : Addr} {v : Value} (h : w.cell? a = some v) : a = ⟨a.block, a.off, none⟩ ∧ a.block < w.heap.size := by
  have hb := World.block_lt_of_cell? w a h
  refine ⟨?_, hb⟩
  unfold World.cell? at h
  split at h
  · split at h
    · cases h
    · rename_i hs
      cases a with
      | mk b o s => cases s with
        | none => rfl
        | some _ => simp at hs
  · cases h
theorem weights_all {H : Type} {P : Program} {e : TypeId} {d : DataW H} {n : Nat} : ∀ {l : List (DataW H)}, d ∈ l → n ∈ d.weights P e → n ∈ DataW.weightsAll P e l
  | [], h, _ => by cases h
  | a :: l, h, hn => by
    simp only [DataW.weightsAll, List.mem_append]
    rcases List.mem_cons.1 h with rfl | h
    · exact Or.inl hn
    · exact Or.inr (weights_all h hn)
theorem cells_file : Tryz.prog.cellsOf 51 = 2 := by kernel_rfl
theorem cells_string : Tryz.prog.cellsOf 9 = 1 := by kernel_rfl
/-- The files that were handed in. -/
theorem files_in {H : Type} {enc : TypeId × Value → H} {W : World} {v : Value} {d : DataW H} {p : List MemPlace} {t1 t2 : TypeId} {d1 d2 : DataW H} (hv : v.oneCell' = true) (h : DataW.Trod enc Tryz.prog W 0 (fun _ => true) true 22 v d p)
    (hw : (DataW.weightsEach Tryz.prog [22, t1, t2] [d, d1, d2]).all (· ≤ reachBytes) = true) : ∃ l, PF W v l ∧ ∀ f ∈ l, f.1.size ≤ 140737488355328 ∧ f.2.size ≤ 140737488355328 := by
  obtain ⟨n, hn⟩ := h
  have hcs : v.cells.toList = [v] := by cases v <;> first | rfl | simp [Value.oneCell'] at hv
  rw [hcs] at hn
  rcases Deep.open_slice_pairs Tryz.underlying22 Tryz.underlying51 cells_file rfl rfl cells_string cells_string hn with ⟨hc, _⟩ | ⟨ad, len, cap, m, k, V0, V1, D0, D1, P0, P1, hc, _, hl, hm, hmm, hx, hall⟩
  · simp only [List.cons.injEq, and_true] at hc
    subst hc
    exact ⟨[], ⟨none, 0, rfl, Nat.le_refl _, by omega, fun h => by simp at h⟩, by simp⟩
  · simp only [List.cons.injEq, and_true] at hc
    subst hc
    simp only [if_true] at hmm
    subst hmm
    simp only [Prod.mk.injEq] at hx
    obtain ⟨rfl, rfl⟩ := hx
    have each : ∀ i, i < m → ∃ q : Fl, V0 i = .string q.1 ∧ V1 i = .string q.2 ∧ D0 i = .lit (.string q.1.data.toList) ∧ D1 i = .lit (.string q.2.data.toList) := fun i hi => by
      obtain ⟨s0, h1, h2, _⟩ := DataW.trod_string Tryz.underlying9 (hall i hi).2.2.1
      obtain ⟨s1, h3, h4, _⟩ := DataW.trod_string Tryz.underlying9 (hall i hi).2.2.2
      simp only [List.cons.injEq, and_true, Prod.mk.injEq] at h1 h2 h3 h4
      exact ⟨(s0, s1), h1, h3, h2.1, h4.1⟩
    obtain ⟨q, hq⟩ := Deep.choose_lt each
    refine ⟨(List.range len).map q, ⟨some ad, m, by simp, by simpa using hl, by unfold maxLen at hm; omega, fun h0 => ?_⟩, fun f hf => ?_⟩
    · simp at h0
      have h00 := (hall 0 (by omega)).1
      obtain ⟨e, hb⟩ := cell_plain h00
      have e0 : ad.add (0 * 2) = ad := by simp [Addr.add]
      rw [e0] at e hb
      refine ⟨ad.block, ad.off, by rw [← e], hb, fun j f hj => ?_⟩
      have hjl := (List.getElem?_eq_some_iff.1 hj).1
      simp at hjl
      rw [List.getElem?_map, List.getElem?_range hjl] at hj
      simp only [Option.map_some, Option.some.injEq] at hj
      subst hj
      obtain ⟨c0, c1, _⟩ := hall j (by omega)
      obtain ⟨v0, v1, _⟩ := hq j (by omega)
      rw [e] at c0 c1
      rw [v0] at c0
      rw [v1] at c1
      have ea : ∀ i, (⟨ad.block, ad.off, none⟩ : Addr).add i = ⟨ad.block, ad.off + i, none⟩ := fun i => by
        unfold Addr.add
        by_cases h : i = 0
        · rw [if_pos h, h]; rfl
        · rw [if_neg h]
      rw [ea] at c0 c1
      exact ⟨c0, by rw [Nat.add_assoc]; exact c1⟩
    · obtain ⟨j, hj, rfl⟩ := List.mem_map.1 hf
      rw [List.mem_range] at hj
      obtain ⟨_, _, w0, w1⟩ := hq j (by omega)
      have key : ∀ b : List UInt8, (D0 j = .lit (.string b) ∨ D1 j = .lit (.string b)) → b.length ≤ reachBytes := fun b hb => by
        refine of_decide_eq_true (List.all_eq_true.1 hw b.length ?_)
        simp only [DataW.weightsEach, List.mem_append]
        left
        unfold DataW.weights
        rw [Tryz.underlying22]
        simp only [List.mem_cons, List.mem_append]
        right; left
        refine weights_all (d := .agg [D0 j, D1 j]) (List.mem_map.2 ⟨j, List.mem_range.2 hj, rfl⟩) ?_
        unfold DataW.weights
        rw [Tryz.underlying51]
        simp only [List.map_cons, List.map_nil, DataW.weightsEach, List.mem_append]
        rcases hb with hb | hb
        · left; rw [hb]; simp [DataW.weights]
        · right; left; rw [hb]; simp [DataW.weights]
      have k0 := key _ (Or.inl w0)
      have k1 := key _ (Or.inr w1)
      have hr : reachBytes < 140737488355328 := by decide
      have z0 : (q j).1.data.toList.length = (q j).1.size := rfl
      have z1 : (q j).2.data.toList.length = (q j).2.size := rfl
      exact ⟨by omega, by omega⟩
end Go.Proofs.YtploagfjajlloaaGreatDoor
