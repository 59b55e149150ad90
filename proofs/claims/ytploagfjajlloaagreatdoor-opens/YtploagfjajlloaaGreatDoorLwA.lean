import Derived.Test.YtploagfjajlloaaGreatDoorFilA
import Derived.BigQuiet
import Derived.Deep.QuietTactic
namespace Go.Proofs.YtploagfjajlloaaGreatDoor
open Go.RowKit Jr

/-- The bytes of the contents and the names. -/
def bulkL : List Fl → Nat
  | [] => 0
  | f :: l => f.2.size + f.1.size + bulkL l
theorem bulkL_snoc (l : List Fl) (f : Fl) : bulkL (l ++ [f]) = bulkL l + f.2.size + f.1.size := by
  induction l with
  | nil => simp [bulkL]
  | cons a l ih => simp only [List.cons_append, bulkL, ih]; omega
theorem bulkL_take (l : List Fl) (k : Nat) : bulkL (l.take k) ≤ bulkL l := by
  induction l generalizing k with
  | nil => simp [bulkL]
  | cons a l ih =>
    cases k with
    | zero => simp [bulkL]
    | succ k => have := ih k; simp only [List.take_succ_cons, bulkL]; omega

set_option maxRecDepth 10000 in
set_option maxHeartbeats 2000000 in
theorem lfew (v : Value) (l : List Fl) (w : World) (h : PF w v l) (hs : ∀ f ∈ l, f.1.size ≤ 140737488355328 ∧ f.2.size ≤ 140737488355328) :
    Calls Tryz.prog 4 #[v] w fun e w' => ((e = .returned (.bool true) ∧ l.length ≤ 1073741824 ∧ bulkL l ≤ 67108864) ∨ e = .returned (.bool false)) ∧ Below w.heap.size w w' := by
  obtain ⟨p, cap, rfl, hcap, hmax, HP⟩ := h
  obtain ⟨n, hn'⟩ : ∃ n, l.length = n := ⟨_, rfl⟩
  rw [hn'] at hcap HP ⊢
  have HN : Hid (l.length = n) := hn'
  have HS0 : Hid (∀ f ∈ l, f.1.size ≤ 140737488355328 ∧ f.2.size ≤ 140737488355328) := hs
  clear hn' hs
  by_cases hn : n ≤ 1073741824
  · go_enter Tryz.func4, Tryz.ntmps4
    go_upto_region 5 with fail
    go_loopw [3, 4] (fun s i wr => ∃ (k m : Nat), k ≤ n ∧ m ≤ 67108864 ∧ i = .int .i64 k ∧ s = .int .i64 m ∧ Hid (m = bulkL (l.take k)) ∧ Below w.heap.size w wr) (fun _ i _ => n - (intOf i).toNat)
    case atStart => exact ⟨0, 0, Nat.zero_le _, Nat.zero_le _, rfl, rfl, by show 0 = _; simp [bulkL], Below.refl _ _⟩
    case round =>
      obtain ⟨k, m, hk, hm26, rfl, rfl, hm, hbl⟩ := hrel
      by_cases hlt : k < n
      · obtain ⟨g, off, rfl, hg2, hg⟩ := HP.out (by omega)
        have hLq : k < l.length := by rw [HN.out]; exact hlt
        obtain ⟨f, hf⟩ : ∃ f, l[k]? = some f := ⟨_, List.getElem?_eq_getElem hLq⟩
        obtain ⟨g1, g2⟩ := hg k f hf
        obtain ⟨z1, z2⟩ := HS0.out f (List.mem_of_getElem? hf)
        have e1 : wr.cell? ⟨g, off + k * 2, none⟩ = some (.string f.1) := (hbl.cell (p := ⟨g, off + k * 2, none⟩) hg2).trans g1
        have e2 : wr.cell? ⟨g, off + k * 2 + 1, none⟩ = some (.string f.2) := (hbl.cell (p := ⟨g, off + k * 2 + 1, none⟩) hg2).trans g2
        have htk : l.take (k + 1) = l.take k ++ [f] := by rw [List.take_add_one, hf]; rfl
        have hs : m + f.2.size + f.1.size = bulkL (l.take (k + 1)) := by rw [htk, bulkL_snoc, ← hm.out]
        have HS : Hid (m + f.2.size + f.1.size = bulkL (l.take (k + 1))) := hs
        have HBL : Hid (Below w.heap.size w wr) := hbl
        clear hs htk g1 g2 hg hf hm hbl
        go_upto_region 7 with fail
        by_cases h1 : m + f.2.size + f.1.size ≤ 67108864
        · open Go.BigFrame in go_big_quiet (fail)
          go_wp2
          go_roundw
          case rel => exact ⟨k + 1, m + f.2.size + f.1.size, by omega, h1, by go_num, by go_num, HS, below_drewN HBL.out _⟩
          case measure => simp [intOf]; omega
        · open Go.BigFrame in go_big_quiet (fail)
          go_wp2
          go_ret
          exact ⟨Or.inr rfl, below_drewN HBL.out _⟩
      · have HBL : Hid (Below w.heap.size w wr) := hbl
        have HM : Hid (m = bulkL (l.take k)) := hm
        clear hbl hm
        obtain rfl : k = n := by omega
        go_wp2
        go_ret
        refine ⟨Or.inl ⟨rfl, hn, ?_⟩, HBL.out⟩
        have hk' : l.take k = l := List.take_of_length_le (by rw [HN.out]; exact Nat.le_refl _)
        have := HM.out
        rw [hk'] at this
        omega
  · go_enter Tryz.func4, Tryz.ntmps4
    go_wp2
    go_ret
    exact ⟨Or.inr rfl, Below.refl _ _⟩

set_option maxRecDepth 10000 in
set_option maxHeartbeats 2000000 in
theorem lnow (d : Nat) (v : Value) (L : List DF) (c s x : Int) (w : World) (h : Dk w d v L c s x) (hL : L.length ≤ 1073741824) (hf : ∀ f ∈ L, f.now.size ≤ 1000000000000) :
    Calls Tryz.prog 11 #[.pointer (some ⟨d, 0, none⟩)] w fun e w' => ∃ v' R, e = .returned v' ∧ RFs w' w.heap.size v' R ∧ R.map RF.nc = dd (L.map DF.nf) ∧ Below w.heap.size w w' := by
  have HD : Hid (Dk w d v L c s x) := h
  have HF : Hid (∀ f ∈ L.map DF.nf, f.2.size ≤ 1000000000000) := fun f hf' => by
    obtain ⟨g, hg, rfl⟩ := List.mem_map.1 hf'
    exact hf g hg
  clear h hf
  go_enter Tryz.func11, Tryz.ntmps11
  go_upto_region 2 with (go_at_call 28; refine Calls.mono (dnow d v L c s x w HD.out hL) ?_; rintro e W1 ⟨v1, rfl, hp1, hb1⟩)
  have HP1 : Hid (PF W1 v1 (L.map DF.nf)) := hp1
  have HB1 : Hid (Below w.heap.size w W1) := hb1
  obtain ⟨p1, k1, hv1, -⟩ := hp1
  rw [List.length_map] at hv1
  subst hv1
  clear hb1
  have hlen : (L.map DF.nf).length ≤ 1073741824 := by rw [List.length_map]; exact hL
  have HJ := lfiles _ (L.map DF.nf) W1 HP1.out hlen HF.out
  have HJ2 : Hid (Calls Tryz.prog 6 #[.slice p1 L.length k1] W1 fun e w' => ∃ v' R, e = .returned v' ∧ RFs w' W1.heap.size v' R ∧ R.map RF.nc = dd (L.map DF.nf) ∧ Below W1.heap.size W1 w') := HJ
  clear HJ
  go_wp2_with (go_at_call 6; refine Calls.mono HJ2.out ?_; rintro e W2 ⟨v2, R, rfl, hr, hm, hb2⟩; obtain ⟨p2, k2, hv2, -⟩ := hr.pack; subst hv2)
  go_ret
  exact ⟨_, R, rfl, ⟨row_base hr.row HB1.out.size, hr.bs⟩, hm, HB1.out.trans (hb2.mono HB1.out.size)⟩

set_option maxRecDepth 10000 in
set_option maxHeartbeats 2000000 in
theorem lcertain (d : Nat) (v : Value) (L : List DF) (c s x : Int) (w : World) (h : Dk w d v L c s x) (hL : L.length ≤ 1073741824) (hf : ∀ f ∈ L, f.safe.size ≤ 1000000000000) :
    Calls Tryz.prog 12 #[.pointer (some ⟨d, 0, none⟩)] w fun e w' => ∃ v' R, e = .returned v' ∧ RFs w' w.heap.size v' R ∧ R.map RF.nc = dd (L.map DF.sf) ∧ Below w.heap.size w w' := by
  have HD : Hid (Dk w d v L c s x) := h
  have HF : Hid (∀ f ∈ L.map DF.sf, f.2.size ≤ 1000000000000) := fun f hf' => by
    obtain ⟨g, hg, rfl⟩ := List.mem_map.1 hf'
    exact hf g hg
  clear h hf
  go_enter Tryz.func12, Tryz.ntmps12
  go_upto_region 2 with (go_at_call 29; refine Calls.mono (dcertain d v L c s x w HD.out hL) ?_; rintro e W1 ⟨v1, rfl, hp1, hb1⟩)
  have HP1 : Hid (PF W1 v1 (L.map DF.sf)) := hp1
  have HB1 : Hid (Below w.heap.size w W1) := hb1
  obtain ⟨p1, k1, hv1, -⟩ := hp1
  rw [List.length_map] at hv1
  subst hv1
  clear hb1
  have hlen : (L.map DF.sf).length ≤ 1073741824 := by rw [List.length_map]; exact hL
  have HJ := lfiles _ (L.map DF.sf) W1 HP1.out hlen HF.out
  have HJ2 : Hid (Calls Tryz.prog 6 #[.slice p1 L.length k1] W1 fun e w' => ∃ v' R, e = .returned v' ∧ RFs w' W1.heap.size v' R ∧ R.map RF.nc = dd (L.map DF.sf) ∧ Below W1.heap.size W1 w') := HJ
  clear HJ
  go_wp2_with (go_at_call 6; refine Calls.mono HJ2.out ?_; rintro e W2 ⟨v2, R, rfl, hr, hm, hb2⟩; obtain ⟨p2, k2, hv2, -⟩ := hr.pack; subst hv2)
  go_ret
  exact ⟨_, R, rfl, ⟨row_base hr.row HB1.out.size, hr.bs⟩, hm, HB1.out.trans (hb2.mono HB1.out.size)⟩
end Go.Proofs.YtploagfjajlloaaGreatDoor
