import Derived.Test.YtploagfjajlloaaGreatDoorDkY
import Derived.Test.YtploagfjajlloaaGreatDoorLast
namespace Go.Proofs.YtploagfjajlloaaGreatDoor
open Go.RowKit Jr

set_option maxRecDepth 10000 in
set_option maxHeartbeats 4000000 in
theorem newdisk (v : Value) (l : List Fl) (w : World) (h : PF w v l) (hn : l.length ≤ 1073741824) (hf : ∀ f ∈ l, f.2.size ≤ 1000000000000) :
    Calls Tryz.prog 7 #[v] w fun e w' => e = .returned (.pointer (some ⟨w.heap.size, 0, none⟩)) ∧ ∃ v' L, Dk w' w.heap.size v' L 0 0 0 ∧ L.map DF.nf = dd l ∧ L.map DF.sf = dd l ∧ (∀ f ∈ L, w.heap.size ≤ f.blk) ∧ Below w.heap.size w w' := by
  obtain ⟨p, cap, rfl, hcap, hmax, HP⟩ := h
  obtain ⟨n, hn'⟩ : ∃ n, l.length = n := ⟨_, rfl⟩
  rw [hn'] at hcap HP hn ⊢
  have HN : Hid (l.length = n) := hn'
  have HS : Hid (∀ f ∈ l, f.2.size ≤ 1000000000000) := hf
  clear hn' hf
  have hb1 : Below w.heap.size w (w.alloc (.cells (dcells (.slice none 0 0) 0 0 0) 65)) := (Below.refl _ _).alloc (Nat.le_refl _) _
  have hd1 : Hid (Dk (w.alloc (.cells (dcells (.slice none 0 0) 0 0 0) 65)) w.heap.size (.slice none 0 0) [] 0 0 0) := ⟨obj_new _ _, World.ownsRow_nil _ _ _ _, by simp, by simp⟩
  have HB1 : Hid (Below w.heap.size w (w.alloc (.cells (dcells (.slice none 0 0) 0 0 0) 65))) := hb1
  clear hb1
  go_enter Tryz.func7, Tryz.ntmps7
  go_upto_region 3 with fail
  go_loopw [10] (fun i wr => ∃ (k : Nat) (v' : Value) (L : List DF), k ≤ n ∧ i = .int .i64 k ∧ Hid (Dk wr w.heap.size v' L 0 0 0 ∧ L.map DF.nf = dd (l.take k) ∧ L.map DF.sf = dd (l.take k)) ∧ Hid (∀ f ∈ L, w.heap.size ≤ f.blk) ∧ Hid (∀ q, v'.ownBlock = some q → w.heap.size ≤ q) ∧ Hid (Below w.heap.size w wr)) (fun i _ => n - (intOf i).toNat)
  case atStart => exact ⟨0, _, [], Nat.zero_le _, rfl, ⟨hd1.out, rfl, rfl⟩, (fun f h => by cases h), (fun q h => by cases h), HB1⟩
  case round =>
    obtain ⟨k, v', L, hk, rfl, hD, HLB, HOB, hbl⟩ := hrel
    by_cases hlt : k < n
    · obtain ⟨g, off, rfl, hg2, hg⟩ := HP.out (by omega)
      have hLq : k < l.length := by rw [HN.out]; exact hlt
      obtain ⟨f, hf⟩ : ∃ f, l[k]? = some f := ⟨_, List.getElem?_eq_getElem hLq⟩
      obtain ⟨g1, g2⟩ := hg k f hf
      have e1 : wr.cell? ⟨g, off + k * 2, none⟩ = some (.string f.1) := (hbl.out.cell (p := ⟨g, off + k * 2, none⟩) hg2).trans g1
      have e2 : wr.cell? ⟨g, off + k * 2 + 1, none⟩ = some (.string f.2) := (hbl.out.cell (p := ⟨g, off + k * 2 + 1, none⟩) hg2).trans g2
      go_upto_region 5 with fail
      obtain ⟨W, hW⟩ : ∃ W, W = wr.alloc (.cells (flbox f) 51) := ⟨_, rfl⟩
      have hbW : Below wr.heap.size wr W := by rw [hW]; exact (Below.refl _ _).alloc (Nat.le_refl _) _
      have oW : W.heap[wr.heap.size]? = some (.cells (flbox f) 51 (0, 0)) := by rw [hW]; exact obj_new _ _
      have DW := hD.out.1.new hbW
      have b0 : W.cell? ⟨wr.heap.size, 0, none⟩ = some (.string f.1) := cell_obj oW
      have b1 : W.cell? ⟨wr.heap.size, 1, none⟩ = some (.string f.2) := cell_obj oW
      have bsz : wr.heap.size < W.heap.size := heap_lt oW
      have HBW : Hid (Below w.heap.size w W) := hbl.out.trans (hbW.mono hbl.out.size)
      have hwW : w.heap.size < W.heap.size := heap_lt DW.obj
      have htk : l.take (k + 1) = l.take k ++ [f] := by rw [List.take_add_one, hf]; rfl
      have hfs : f.2.size ≤ 1000000000000 := HS.out f (List.mem_of_getElem? hf)
      have HDW : Hid (Dk W w.heap.size v' L 0 0 0) := DW
      have HM : Hid (L.map DF.nf = dd (l.take k) ∧ L.map DF.sf = dd (l.take k)) := hD.out.2
      have HTK : Hid (l.take (k + 1) = l.take k ++ [f]) := htk
      obtain ⟨z, hz⟩ : ∃ z, wr.heap.size = z := ⟨_, rfl⟩
      rw [hz] at b0 b1 bsz oW ⊢
      have hW' : wr.alloc (.cells #[.string f.1, .string f.2] 51) = W := hW.symm
      rw [hW']
      clear hW hW' hbW DW hbl hD hg hg2 g1 g2 e1 e2 hf htk hz hk
      by_cases he : ∃ f' ∈ L, f'.name = f.1
      · obtain ⟨i, f', hat⟩ := at_of_mem he
        have HE : Hid (dd (l.take (k + 1)) = dd (l.take k)) := by
          show _ = _
          rw [HTK.out, dd_snoc, if_pos ((any_name HM.out.1 f.1).2 he)]
        have HA : Hid (At L f.1 i f') := hat
        clear he hat
        go_wp2_with (go_at_call 22; refine (dfind w.heap.size v' L 0 0 0 f.1 (fptr f') W HDW.out (Or.inr ⟨i, f', HA.out.get, rfl, HA.out.name, HA.out.first⟩)).mono ?_; rintro e w' ⟨rfl, hw⟩; rw [hw]; clear hw)
        go_roundw
        case rel => exact ⟨k + 1, v', L, by omega, by go_num, ⟨HDW.out, by rw [HE.out]; exact HM.out.1, by rw [HE.out]; exact HM.out.2⟩, HLB, HOB, HBW⟩
        case measure => simp [intOf]; omega
      · have HE : Hid (dd (l.take (k + 1)) = dd (l.take k) ++ [f]) := by
          show _ = _
          rw [HTK.out, dd_snoc, if_neg (fun h => he ((any_name HM.out.1 f.1).1 h))]
        have HNO : Hid (∀ f' ∈ L, f'.name ≠ f.1) := fun f' hf' e => he ⟨f', hf', e⟩
        clear he
        go_upto_region 6 with (go_at_call 22; refine (dfind w.heap.size v' L 0 0 0 f.1 (.pointer none) W HDW.out (Or.inl ⟨rfl, HNO.out⟩)).mono ?_; rintro e w' ⟨rfl, hw⟩; rw [hw]; clear hw)
        obtain ⟨p', cap', rfl, hcap', hmax', c0, -⟩ := HDW.out.pack
        have kc := fun w => bw_conv w f.2
        have hA : Below W.heap.size W (Lib.bytesWorld W.drew 5 f.2) := (Below.refl _ _).drew.trans (below_bw W.drew f.2)
        have hB : Below W.heap.size W (Lib.bytesWorld (Lib.bytesWorld W.drew 5 f.2) 5 f.2) := hA.trans ((below_bw _ f.2).mono hA.size)
        have sA : (Lib.bytesWorld W.drew 5 f.2).heap.size = W.heap.size + 1 := Lib.bytesWorld_size _ _ _
        have sB : (Lib.bytesWorld (Lib.bytesWorld W.drew 5 f.2) 5 f.2).heap.size = W.heap.size + 2 := by rw [Lib.bytesWorld_size, sA]
        have cA : (Lib.bytesWorld W.drew 5 f.2).cell? ⟨w.heap.size, 0, none⟩ = some (.slice p' L.length cap') := (hA.cell (p := ⟨w.heap.size, 0, none⟩) hwW).trans c0
        have cB : (Lib.bytesWorld (Lib.bytesWorld W.drew 5 f.2) 5 f.2).cell? ⟨w.heap.size, 0, none⟩ = some (.slice p' L.length cap') := (hB.cell (p := ⟨w.heap.size, 0, none⟩) hwW).trans c0
        have oB : (Lib.bytesWorld (Lib.bytesWorld W.drew 5 f.2) 5 f.2).heap[z]? = some (.cells (flbox f) 51 (0, 0)) := below_obj hB bsz oW
        have z0 : W.drew.cell? ⟨z, 0, none⟩ = some (.string f.1) ∧ W.drew.cell? ⟨z, 1, none⟩ = some (.string f.2) := ⟨b0, b1⟩
        have zA : (Lib.bytesWorld W.drew 5 f.2).cell? ⟨z, 0, none⟩ = some (.string f.1) ∧ (Lib.bytesWorld W.drew 5 f.2).cell? ⟨z, 1, none⟩ = some (.string f.2) := ⟨(hA.cell (p := ⟨z, 0, none⟩) bsz).trans b0, (hA.cell (p := ⟨z, 1, none⟩) bsz).trans b1⟩
        have zB : (Lib.bytesWorld (Lib.bytesWorld W.drew 5 f.2) 5 f.2).cell? ⟨z, 0, none⟩ = some (.string f.1) ∧ (Lib.bytesWorld (Lib.bytesWorld W.drew 5 f.2) 5 f.2).cell? ⟨z, 1, none⟩ = some (.string f.2) := ⟨cell_obj oB, cell_obj oB⟩
        have DB := HDW.out.new hB
        have s1 : BS (Lib.bytesWorld (Lib.bytesWorld W.drew 5 f.2) 5 f.2) (.slice (some ⟨W.heap.size, 0, none⟩) f.2.size (grownCap W.drew f.2.size 0 5)) W.heap.size f.2 := (bs_bw W.drew f.2 (by unfold maxLen; omega)).on' (below_bw _ f.2) (by rw [sA]; exact Nat.lt_succ_self _)
        have s2 : BS (Lib.bytesWorld (Lib.bytesWorld W.drew 5 f.2) 5 f.2) (.slice (some ⟨W.heap.size + 1, 0, none⟩) f.2.size (grownCap (Lib.bytesWorld W.drew 5 f.2) f.2.size 0 5)) (W.heap.size + 1) f.2 := by
          have := bs_bw (Lib.bytesWorld W.drew 5 f.2) f.2 (by unfold maxLen; omega)
          rw [sA] at this; exact this
        have hLl : L.length + 1 ≤ 1073741825 := by
          have h1 : L.length = (dd (l.take k)).length := by rw [← HM.out.1, List.length_map]
          have h2 := dd_length (l.take k)
          simp at h2; omega
        obtain ⟨q1, k1, w1, HR1, d1, f1, F1, zw1, -, ob1⟩ := nd_app _ w.heap.size z (W.heap.size + 2) (W.heap.size + 2 + 1) _ L f _ _ _ _ DB sB rfl hLl s1 s2 oB
        obtain ⟨q2, k2, w2, HR2, d2, f2, F2, zw2, -, ob2⟩ := nd_app _ w.heap.size z (W.heap.size + 2) (W.heap.size + 2 + 1) _ L f _ _ _ _ DB sB rfl hLl s2 s1 oB
        have HBB : Hid (Below W.heap.size W (Lib.bytesWorld (Lib.bytesWorld W.drew 5 f.2) 5 f.2)) := hB
        have hzB : z < (Lib.bytesWorld (Lib.bytesWorld W.drew 5 f.2) 5 f.2).heap.size := heap_lt oB
        clear DB s1 s2 hA hB oB hLl oW
        have zX1 : ((Lib.bytesWorld (Lib.bytesWorld W.drew 5 f.2) 5 f.2).alloc (.cells #[.string f.1, (.slice (some ⟨W.heap.size, 0, none⟩) f.2.size (grownCap W.drew f.2.size 0 5)), (.slice (some ⟨W.heap.size + 1, 0, none⟩) f.2.size (grownCap (Lib.bytesWorld W.drew 5 f.2) f.2.size 0 5)), .bool true] 69)).cell? ⟨z, 0, none⟩ = some (.string f.1) ∧ ((Lib.bytesWorld (Lib.bytesWorld W.drew 5 f.2) 5 f.2).alloc (.cells #[.string f.1, (.slice (some ⟨W.heap.size, 0, none⟩) f.2.size (grownCap W.drew f.2.size 0 5)), (.slice (some ⟨W.heap.size + 1, 0, none⟩) f.2.size (grownCap (Lib.bytesWorld W.drew 5 f.2) f.2.size 0 5)), .bool true] 69)).cell? ⟨z, 1, none⟩ = some (.string f.2) := ⟨(World.cell?_alloc_past _ _ _ hzB).trans zB.1, (World.cell?_alloc_past _ _ _ hzB).trans zB.2⟩
        have hzX1 : z < ((Lib.bytesWorld (Lib.bytesWorld W.drew 5 f.2) 5 f.2).alloc (.cells #[.string f.1, (.slice (some ⟨W.heap.size, 0, none⟩) f.2.size (grownCap W.drew f.2.size 0 5)), (.slice (some ⟨W.heap.size + 1, 0, none⟩) f.2.size (grownCap (Lib.bytesWorld W.drew 5 f.2) f.2.size 0 5)), .bool true] 69)).heap.size := Nat.lt_of_lt_of_le hzB ((Below.refl _ _).alloc (Nat.le_refl _) _).size
        have zY1 : (((Lib.bytesWorld (Lib.bytesWorld W.drew 5 f.2) 5 f.2).alloc (.cells #[.string f.1, (.slice (some ⟨W.heap.size, 0, none⟩) f.2.size (grownCap W.drew f.2.size 0 5)), (.slice (some ⟨W.heap.size + 1, 0, none⟩) f.2.size (grownCap (Lib.bytesWorld W.drew 5 f.2) f.2.size 0 5)), .bool true] 69)).alloc (.cells #[.pointer (some ⟨W.heap.size + 2, 0, none⟩)] 66)).cell? ⟨z, 0, none⟩ = some (.string f.1) ∧ (((Lib.bytesWorld (Lib.bytesWorld W.drew 5 f.2) 5 f.2).alloc (.cells #[.string f.1, (.slice (some ⟨W.heap.size, 0, none⟩) f.2.size (grownCap W.drew f.2.size 0 5)), (.slice (some ⟨W.heap.size + 1, 0, none⟩) f.2.size (grownCap (Lib.bytesWorld W.drew 5 f.2) f.2.size 0 5)), .bool true] 69)).alloc (.cells #[.pointer (some ⟨W.heap.size + 2, 0, none⟩)] 66)).cell? ⟨z, 1, none⟩ = some (.string f.2) := ⟨(World.cell?_alloc_past _ _ _ hzX1).trans zX1.1, (World.cell?_alloc_past _ _ _ hzX1).trans zX1.2⟩
        have zX2 : ((Lib.bytesWorld (Lib.bytesWorld W.drew 5 f.2) 5 f.2).alloc (.cells #[.string f.1, (.slice (some ⟨W.heap.size + 1, 0, none⟩) f.2.size (grownCap (Lib.bytesWorld W.drew 5 f.2) f.2.size 0 5)), (.slice (some ⟨W.heap.size, 0, none⟩) f.2.size (grownCap W.drew f.2.size 0 5)), .bool true] 69)).cell? ⟨z, 0, none⟩ = some (.string f.1) ∧ ((Lib.bytesWorld (Lib.bytesWorld W.drew 5 f.2) 5 f.2).alloc (.cells #[.string f.1, (.slice (some ⟨W.heap.size + 1, 0, none⟩) f.2.size (grownCap (Lib.bytesWorld W.drew 5 f.2) f.2.size 0 5)), (.slice (some ⟨W.heap.size, 0, none⟩) f.2.size (grownCap W.drew f.2.size 0 5)), .bool true] 69)).cell? ⟨z, 1, none⟩ = some (.string f.2) := ⟨(World.cell?_alloc_past _ _ _ hzB).trans zB.1, (World.cell?_alloc_past _ _ _ hzB).trans zB.2⟩
        have hzX2 : z < ((Lib.bytesWorld (Lib.bytesWorld W.drew 5 f.2) 5 f.2).alloc (.cells #[.string f.1, (.slice (some ⟨W.heap.size + 1, 0, none⟩) f.2.size (grownCap (Lib.bytesWorld W.drew 5 f.2) f.2.size 0 5)), (.slice (some ⟨W.heap.size, 0, none⟩) f.2.size (grownCap W.drew f.2.size 0 5)), .bool true] 69)).heap.size := Nat.lt_of_lt_of_le hzB ((Below.refl _ _).alloc (Nat.le_refl _) _).size
        have zY2 : (((Lib.bytesWorld (Lib.bytesWorld W.drew 5 f.2) 5 f.2).alloc (.cells #[.string f.1, (.slice (some ⟨W.heap.size + 1, 0, none⟩) f.2.size (grownCap (Lib.bytesWorld W.drew 5 f.2) f.2.size 0 5)), (.slice (some ⟨W.heap.size, 0, none⟩) f.2.size (grownCap W.drew f.2.size 0 5)), .bool true] 69)).alloc (.cells #[.pointer (some ⟨W.heap.size + 2, 0, none⟩)] 66)).cell? ⟨z, 0, none⟩ = some (.string f.1) ∧ (((Lib.bytesWorld (Lib.bytesWorld W.drew 5 f.2) 5 f.2).alloc (.cells #[.string f.1, (.slice (some ⟨W.heap.size + 1, 0, none⟩) f.2.size (grownCap (Lib.bytesWorld W.drew 5 f.2) f.2.size 0 5)), (.slice (some ⟨W.heap.size, 0, none⟩) f.2.size (grownCap W.drew f.2.size 0 5)), .bool true] 69)).alloc (.cells #[.pointer (some ⟨W.heap.size + 2, 0, none⟩)] 66)).cell? ⟨z, 1, none⟩ = some (.string f.2) := ⟨(World.cell?_alloc_past _ _ _ hzX2).trans zX2.1, (World.cell?_alloc_past _ _ _ hzX2).trans zX2.2⟩
        have hdB : w.heap.size < (Lib.bytesWorld (Lib.bytesWorld W.drew 5 f.2) 5 f.2).heap.size := cell_lt cB
        have dX1 : ((Lib.bytesWorld (Lib.bytesWorld W.drew 5 f.2) 5 f.2).alloc (.cells #[.string f.1, (.slice (some ⟨W.heap.size, 0, none⟩) f.2.size (grownCap W.drew f.2.size 0 5)), (.slice (some ⟨W.heap.size + 1, 0, none⟩) f.2.size (grownCap (Lib.bytesWorld W.drew 5 f.2) f.2.size 0 5)), .bool true] 69)).cell? ⟨w.heap.size, 0, none⟩ = some (.slice p' L.length cap') := (World.cell?_alloc_past _ _ _ hdB).trans cB
        have hdX1 : w.heap.size < ((Lib.bytesWorld (Lib.bytesWorld W.drew 5 f.2) 5 f.2).alloc (.cells #[.string f.1, (.slice (some ⟨W.heap.size, 0, none⟩) f.2.size (grownCap W.drew f.2.size 0 5)), (.slice (some ⟨W.heap.size + 1, 0, none⟩) f.2.size (grownCap (Lib.bytesWorld W.drew 5 f.2) f.2.size 0 5)), .bool true] 69)).heap.size := Nat.lt_of_lt_of_le hdB ((Below.refl _ _).alloc (Nat.le_refl _) _).size
        have dY1 : (((Lib.bytesWorld (Lib.bytesWorld W.drew 5 f.2) 5 f.2).alloc (.cells #[.string f.1, (.slice (some ⟨W.heap.size, 0, none⟩) f.2.size (grownCap W.drew f.2.size 0 5)), (.slice (some ⟨W.heap.size + 1, 0, none⟩) f.2.size (grownCap (Lib.bytesWorld W.drew 5 f.2) f.2.size 0 5)), .bool true] 69)).alloc (.cells #[.pointer (some ⟨W.heap.size + 2, 0, none⟩)] 66)).cell? ⟨w.heap.size, 0, none⟩ = some (.slice p' L.length cap') := (World.cell?_alloc_past _ _ _ hdX1).trans dX1
        have dX2 : ((Lib.bytesWorld (Lib.bytesWorld W.drew 5 f.2) 5 f.2).alloc (.cells #[.string f.1, (.slice (some ⟨W.heap.size + 1, 0, none⟩) f.2.size (grownCap (Lib.bytesWorld W.drew 5 f.2) f.2.size 0 5)), (.slice (some ⟨W.heap.size, 0, none⟩) f.2.size (grownCap W.drew f.2.size 0 5)), .bool true] 69)).cell? ⟨w.heap.size, 0, none⟩ = some (.slice p' L.length cap') := (World.cell?_alloc_past _ _ _ hdB).trans cB
        have hdX2 : w.heap.size < ((Lib.bytesWorld (Lib.bytesWorld W.drew 5 f.2) 5 f.2).alloc (.cells #[.string f.1, (.slice (some ⟨W.heap.size + 1, 0, none⟩) f.2.size (grownCap (Lib.bytesWorld W.drew 5 f.2) f.2.size 0 5)), (.slice (some ⟨W.heap.size, 0, none⟩) f.2.size (grownCap W.drew f.2.size 0 5)), .bool true] 69)).heap.size := Nat.lt_of_lt_of_le hdB ((Below.refl _ _).alloc (Nat.le_refl _) _).size
        have dY2 : (((Lib.bytesWorld (Lib.bytesWorld W.drew 5 f.2) 5 f.2).alloc (.cells #[.string f.1, (.slice (some ⟨W.heap.size + 1, 0, none⟩) f.2.size (grownCap (Lib.bytesWorld W.drew 5 f.2) f.2.size 0 5)), (.slice (some ⟨W.heap.size, 0, none⟩) f.2.size (grownCap W.drew f.2.size 0 5)), .bool true] 69)).alloc (.cells #[.pointer (some ⟨W.heap.size + 2, 0, none⟩)] 66)).cell? ⟨w.heap.size, 0, none⟩ = some (.slice p' L.length cap') := (World.cell?_alloc_past _ _ _ hdX2).trans dX2
        clear hzX1 hzX2 hzB hdX1 hdX2 hdB
        have OB1 : Hid (∀ q, (Value.slice (some q1) (L.length + 1) k1).ownBlock = some q → w.heap.size ≤ q) := fun q e => by obtain rfl : q1.block = q := Option.some.inj e; exact ob1.out.elim (fun h => HOB.out _ h) (fun h => by omega)
        have OB2 : Hid (∀ q, (Value.slice (some q2) (L.length + 1) k2).ownBlock = some q → w.heap.size ≤ q) := fun q e => by obtain rfl : q2.block = q := Option.some.inj e; exact ob2.out.elim (fun h => HOB.out _ h) (fun h => by omega)
        have HFO : Hid (∀ q, (q = w.heap.size ∨ (Value.slice p' L.length cap').ownBlock = some q) → w.heap.size ≤ q) := fun q h => h.elim (fun h => by omega) (fun h => HOB.out q h)
        have hS0 : (fun w' : World => (w'.cell? ⟨z, 0, none⟩ = some (.string f.1) ∧ w'.cell? ⟨z, 1, none⟩ = some (.string f.2)) ∧ w'.cell? ⟨w.heap.size, 0, none⟩ = some (.slice p' L.length cap')) W.drew := ⟨z0, c0⟩
        refine wp_region_noPanic ?_
        refine wp_region_last (S := fun w' => (w'.cell? ⟨z, 0, none⟩ = some (.string f.1) ∧ w'.cell? ⟨z, 1, none⟩ = some (.string f.2)) ∧ w'.cell? ⟨w.heap.size, 0, none⟩ = some (.slice p' L.length cap')) (by kernel_rfl) rfl (by kernel_rfl) ?_
        simp only [List.dropLast]
        refine wpAnyH_take (i := 0) (v := ?_) rfl (by kernel_rfl) (by kernel_rfl) (by kernel_rfl) (fun _ _ _ h => h) (Or.inl ⟨by rfl, ?_⟩) (by assumption) ?_
        rotate_left
        · (intro w hSw; (try dsimp only at hSw); go_simp; try with_reducible rfl)
        try simp only [Act.put]
        refine wpAnyH_take (i := 1) (v := ?_) rfl (by kernel_rfl) (by kernel_rfl) (by kernel_rfl) (fun _ _ _ h => h) (Or.inl ⟨by rfl, ?_⟩) (by assumption) ?_
        rotate_left
        · (intro w hSw; (try dsimp only at hSw); go_simp; try with_reducible rfl)
        try simp only [Act.put]
        refine wpAnyH_take (i := 2) (v := ?_) rfl (by kernel_rfl) (by kernel_rfl) (by kernel_rfl) (fun _ _ _ h => h) (Or.inl ⟨by rfl, ?_⟩) (by assumption) ?_
        rotate_left
        · (intro w hSw; (try dsimp only at hSw); go_simp; try with_reducible rfl)
        try simp only [Act.put]
        refine wpAnyH_take (i := 3) (v := ?_) rfl (by kernel_rfl) (by kernel_rfl) (by kernel_rfl) (fun _ _ _ h => h) (Or.inl ⟨by rfl, ?_⟩) (by assumption) ?_
        rotate_left
        · (intro w hSw; (try dsimp only at hSw); go_simp; try with_reducible rfl)
        try simp only [Act.put]
        refine wpAnyH_take (i := 4) (v := ?_) rfl (by kernel_rfl) (by kernel_rfl) (by kernel_rfl) (fun _ _ _ h => h) (Or.inl ⟨by rfl, ?_⟩) (by assumption) ?_
        rotate_left
        · (intro w hSw; (try dsimp only at hSw); go_simp; try with_reducible rfl)
        try simp only [Act.put]
        refine wpAnyH_take (i := 5) (v := ?_) rfl (by kernel_rfl) (by kernel_rfl) (by kernel_rfl) (fun _ _ _ h => h) (Or.inl ⟨by rfl, ?_⟩) (by assumption) ?_
        rotate_left
        · (intro w hSw; (try dsimp only at hSw); go_simp; try with_reducible rfl)
        try simp only [Act.put]
        refine wpAnyH_take (i := 6) (v := ?_) rfl (by kernel_rfl) (by kernel_rfl) (by kernel_rfl) (fun _ _ _ h => h) (Or.inl ⟨by rfl, ?_⟩) (by assumption) ?_
        rotate_left
        · (intro w hSw; (try dsimp only at hSw); go_simp; try with_reducible rfl)
        try simp only [Act.put]
        refine wpAnyH_take (i := 7) (v := ?_) rfl (by kernel_rfl) (by kernel_rfl) (by kernel_rfl) (fun _ _ _ h => h) (Or.inl ⟨by rfl, ?_⟩) (by assumption) ?_
        rotate_left
        · (intro w hSw; (try dsimp only at hSw); go_simp; try with_reducible rfl)
        try simp only [Act.put]
        refine wpAnyH_take (i := 8) (v := ?_) rfl (by kernel_rfl) (by kernel_rfl) (by kernel_rfl) (fun _ _ _ h => h) (Or.inl ⟨by rfl, ?_⟩) (by assumption) ?_
        rotate_left
        · (intro w hSw; (try dsimp only at hSw); go_simp; try with_reducible rfl)
        try simp only [Act.put]
        refine wpAnyH_take (i := 10) (v := ?_) rfl (by kernel_rfl) (by kernel_rfl) (by kernel_rfl) (fun _ _ _ h => h) (Or.inl ⟨by rfl, ?_⟩) (by assumption) ?_
        rotate_left
        · (intro w hSw; (try dsimp only at hSw); go_simp; try with_reducible rfl)
        try simp only [Act.put]
        refine wpAnyH_take (i := 11) (v := ?_) rfl (by kernel_rfl) (by kernel_rfl) (by kernel_rfl) (fun _ _ _ h => h) (Or.inl ⟨by rfl, ?_⟩) (by assumption) ?_
        rotate_left
        · (intro w hSw; (try dsimp only at hSw); go_simp; try with_reducible rfl)
        try simp only [Act.put]
        refine wpAnyH_ready (rs := [9, 12]) (by kernel_rfl) (by simp) ?_
        refine AllReadyH.cons rfl (fun K hK => ?_) ?_
        · skip
          go_simp
          refine hK.out _ _ ⟨zA, cA⟩ (fun hS1 => ?_)
          clear hK K
          try simp only [Act.put]
          clear hS0
          refine wpAnyH_ready (rs := [12]) (by kernel_rfl) (by simp) ?_
          refine AllReadyH.cons rfl (fun K hK => ?_) AllReadyH.nil
          go_simp
          refine hK.out _ _ ⟨zB, cB⟩ (fun hS2 => ?_)
          clear hK K
          try simp only [Act.put]
          clear hS1
          refine wpAnyH_take (i := 13) (v := ?_) rfl (by kernel_rfl) (by kernel_rfl) (by kernel_rfl) (fun _ _ _ h => h) (Or.inl ⟨by rfl, ?_⟩) (by assumption) ?_
          rotate_left
          · (intro w hSw; (try dsimp only at hSw); go_simp; try with_reducible rfl)
          try simp only [Act.put]
          refine wpAnyH_ready (rs := [14]) (by kernel_rfl) (by simp) ?_
          refine AllReadyH.cons rfl (fun K hK => ?_) AllReadyH.nil
          go_simp
          refine hK.out _ _ ⟨zX1, dX1⟩ (fun hS3 => ?_)
          clear hK K
          try simp only [Act.put]
          clear hS2
          refine wpAnyH_ready (rs := [15]) (by kernel_rfl) (by simp) ?_
          refine AllReadyH.cons rfl (fun K hK => ?_) AllReadyH.nil
          go_simp
          refine hK.out _ _ ⟨zY1, dY1⟩ (fun hS4 => ?_)
          clear hK K
          try simp only [Act.put]
          clear hS3
          refine wpAnyH_ready (rs := [16]) (by kernel_rfl) (by simp) ?_
          refine AllReadyH.cons rfl (fun K hK => ?_) AllReadyH.nil
          refine step_app (vs := .slice p' L.length cap') (vx := .slice (some ⟨W.heap.size + 2 + 1, 0, none⟩) 1 1) rfl (.tmp 23) (.tmp 34) 62 62 rfl rfl rfl HR1.out ?_
          refine hK.out _ _ ⟨zw1, d1⟩ (fun hS5 => ?_)
          clear hK K
          try simp only [Act.put]
          clear hS4
          refine wpAnyH_take (i := 17) (v := ?_) rfl (by kernel_rfl) (by kernel_rfl) (by kernel_rfl) (fun _ _ _ h => h) (Or.inl ⟨by rfl, ?_⟩) (by assumption) ?_
          rotate_left
          · (intro w hSw; (try dsimp only at hSw); go_simp; try with_reducible rfl)
          try simp only [Act.put]
          refine wpAnyH_take (i := 18) (v := ?_) rfl (by kernel_rfl) (by kernel_rfl) (by kernel_rfl) (fun _ _ _ h => h) (Or.inl ⟨by rfl, ?_⟩) (by assumption) ?_
          rotate_left
          · (intro w hSw; (try dsimp only at hSw); go_simp; try with_reducible rfl)
          try simp only [Act.put]
          refine wpAnyH_done (by kernel_rfl) ?_ _
          show wpList _ _ _ _ _ _
          go_wp2
          refine NoPanic.normal ?_
          go_wp2
          go_roundw
          case rel => exact ⟨k + 1, _, _, by omega, by go_num, ⟨F1.out.1, by rw [HE.out, List.map_append, HM.out.1]; rfl, by rw [HE.out, List.map_append, HM.out.2]; rfl⟩, (fun f0 hf0 => by rcases List.mem_append.1 hf0 with h | h; exact HLB.out f0 h; simp at h; subst h; exact Nat.le_add_right_of_le (Nat.le_of_lt hwW)), OB1, HBW.out.trans (Kp.below ((Kp.of_new (F := fun q => q = w.heap.size ∨ (Value.slice p' L.length cap').ownBlock = some q) HBB.out).trans F1.out.2) HFO.out (Nat.le_of_lt hwW))⟩
          case measure => simp [intOf]; omega
        · refine AllReadyH.cons rfl (fun K hK => ?_) AllReadyH.nil
          go_simp
          refine hK.out _ _ ⟨zA, cA⟩ (fun hS1 => ?_)
          clear hK K
          try simp only [Act.put]
          clear hS0
          refine wpAnyH_ready (rs := [9]) (by kernel_rfl) (by simp) ?_
          refine AllReadyH.cons rfl (fun K hK => ?_) AllReadyH.nil
          go_simp
          refine hK.out _ _ ⟨zB, cB⟩ (fun hS2 => ?_)
          clear hK K
          try simp only [Act.put]
          clear hS1
          refine wpAnyH_take (i := 13) (v := ?_) rfl (by kernel_rfl) (by kernel_rfl) (by kernel_rfl) (fun _ _ _ h => h) (Or.inl ⟨by rfl, ?_⟩) (by assumption) ?_
          rotate_left
          · (intro w hSw; (try dsimp only at hSw); go_simp; try with_reducible rfl)
          try simp only [Act.put]
          refine wpAnyH_ready (rs := [14]) (by kernel_rfl) (by simp) ?_
          refine AllReadyH.cons rfl (fun K hK => ?_) AllReadyH.nil
          go_simp
          refine hK.out _ _ ⟨zX2, dX2⟩ (fun hS3 => ?_)
          clear hK K
          try simp only [Act.put]
          clear hS2
          refine wpAnyH_ready (rs := [15]) (by kernel_rfl) (by simp) ?_
          refine AllReadyH.cons rfl (fun K hK => ?_) AllReadyH.nil
          go_simp
          refine hK.out _ _ ⟨zY2, dY2⟩ (fun hS4 => ?_)
          clear hK K
          try simp only [Act.put]
          clear hS3
          refine wpAnyH_ready (rs := [16]) (by kernel_rfl) (by simp) ?_
          refine AllReadyH.cons rfl (fun K hK => ?_) AllReadyH.nil
          refine step_app (vs := .slice p' L.length cap') (vx := .slice (some ⟨W.heap.size + 2 + 1, 0, none⟩) 1 1) rfl (.tmp 23) (.tmp 34) 62 62 rfl rfl rfl HR2.out ?_
          refine hK.out _ _ ⟨zw2, d2⟩ (fun hS5 => ?_)
          clear hK K
          try simp only [Act.put]
          clear hS4
          refine wpAnyH_take (i := 17) (v := ?_) rfl (by kernel_rfl) (by kernel_rfl) (by kernel_rfl) (fun _ _ _ h => h) (Or.inl ⟨by rfl, ?_⟩) (by assumption) ?_
          rotate_left
          · (intro w hSw; (try dsimp only at hSw); go_simp; try with_reducible rfl)
          try simp only [Act.put]
          refine wpAnyH_take (i := 18) (v := ?_) rfl (by kernel_rfl) (by kernel_rfl) (by kernel_rfl) (fun _ _ _ h => h) (Or.inl ⟨by rfl, ?_⟩) (by assumption) ?_
          rotate_left
          · (intro w hSw; (try dsimp only at hSw); go_simp; try with_reducible rfl)
          try simp only [Act.put]
          refine wpAnyH_done (by kernel_rfl) ?_ _
          show wpList _ _ _ _ _ _
          go_wp2
          refine NoPanic.normal ?_
          go_wp2
          go_roundw
          case rel => exact ⟨k + 1, _, _, by omega, by go_num, ⟨F2.out.1, by rw [HE.out, List.map_append, HM.out.1]; rfl, by rw [HE.out, List.map_append, HM.out.2]; rfl⟩, (fun f0 hf0 => by rcases List.mem_append.1 hf0 with h | h; exact HLB.out f0 h; simp at h; subst h; exact Nat.le_add_right_of_le (Nat.le_of_lt hwW)), OB2, HBW.out.trans (Kp.below ((Kp.of_new (F := fun q => q = w.heap.size ∨ (Value.slice p' L.length cap').ownBlock = some q) HBB.out).trans F2.out.2) HFO.out (Nat.le_of_lt hwW))⟩
          case measure => simp [intOf]; omega
    · obtain rfl : k = n := by omega
      have hk' : l.take k = l := List.take_of_length_le (by rw [HN.out]; exact Nat.le_refl _)
      rw [hk'] at hD
      go_wp2
      go_ret
      exact ⟨rfl, v', L, hD.out.1, hD.out.2.1, hD.out.2.2, HLB.out, hbl.out⟩
end Go.Proofs.YtploagfjajlloaaGreatDoor
