import Derived.Test.YtploagfjajlloaaGreatDoorFilA
import Derived.Test.YtploagfjajlloaaGreatDoorNowA
import Derived.BigQuiet
import Derived.Deep.QuietTactic
namespace Go.Proofs.YtploagfjajlloaaGreatDoor
open Go.RowKit Jr

set_option maxRecDepth 10000 in
set_option maxHeartbeats 4000000 in
theorem ralike (v v' : Value) (R R' : List RF) (B B' : Nat) (w : World) (h : RFs w B v R) (h' : RFs w B' v' R') (he : R.map RF.nc = R'.map RF.nc) (hnd : (R.map RF.name).Nodup) (hn : R.length ≤ 1073741824) :
    Calls Tryz.prog 13 #[v, v'] w fun e w' => e = .returned (.bool true) ∧ Below w.heap.size w w' := by
  have hl : R.length = R'.length := by have := congrArg List.length he; simpa using this
  have HH : Hid (RFs w B v R) := h
  have HH' : Hid (RFs w B' v' R') := h'
  have HE : Hid (R.map RF.nc = R'.map RF.nc) := he
  have HD : Hid ((R.map RF.name).Nodup) := hnd
  obtain ⟨p, cap, rfl, hcap, hmax, HP⟩ := h.pack
  obtain ⟨p', cap', rfl, hcap', hmax', HP'⟩ := h'.pack
  clear h h' he hnd
  obtain ⟨n, hn'⟩ : ∃ n, R.length = n := ⟨_, rfl⟩
  rw [← hl] at hcap' HP' HH' ⊢
  rw [hn'] at hcap hcap' HP HP' HH HH' hn ⊢
  have HN : Hid (R.length = n ∧ R'.length = n) := ⟨hn', by omega⟩
  clear hn' hl
  go_enter Tryz.func13, Tryz.ntmps13
  go_upto_region 4 with fail
  go_loopw [5] (fun i wr => ∃ (k : Nat), k ≤ n ∧ i = .int .i64 k ∧ Below w.heap.size w wr) (fun i _ => n - (intOf i).toNat)
  case atStart => exact ⟨0, Nat.zero_le _, rfl, Below.refl _ _⟩
  case round =>
    obtain ⟨k, hk, rfl, hbl⟩ := hrel
    by_cases hlt : k < n
    · obtain ⟨g, rfl, hgl, hc⟩ := HP.out (by omega)
      obtain ⟨g', rfl, hgl', hc'⟩ := HP'.out (by omega)
      have hjl : k < R.length := by rw [HN.out.1]; exact hlt
      have hjl' : k < R'.length := by rw [HN.out.2]; exact hlt
      obtain ⟨f, hf⟩ : ∃ f, R[k]? = some f := ⟨_, List.getElem?_eq_getElem hjl⟩
      obtain ⟨f', hf'⟩ : ∃ f, R'[k]? = some f := ⟨_, List.getElem?_eq_getElem hjl'⟩
      have hff : f.nc = f'.nc := by
        have := congrArg (fun l => l[k]?) HE.out
        simp only [List.getElem?_map, hf, hf', Option.map_some, Option.some.injEq] at this
        exact this
      have hname : f'.name = f.name := by have := congrArg Prod.fst hff; exact this.symm
      have hcont : f'.c = f.c := by have := congrArg Prod.snd hff; exact this.symm
      obtain ⟨a0, a1⟩ := hc k f hf
      obtain ⟨b0, b1⟩ := hc' k f' hf'
      have hr := (HH.out.new hbl).bs f (List.mem_of_getElem? hf)
      have hr' := (HH'.out.new hbl).bs f' (List.mem_of_getElem? hf')
      obtain ⟨o, c, hv, q1, q2, q3⟩ := hr.shape
      obtain ⟨o', c', hv', q1', q2', q3'⟩ := hr'.shape
      rw [hv] at a1
      rw [hv', hcont] at b1
      rw [hcont] at q3'
      have e0 : wr.cell? ⟨g, k * 2, none⟩ = some (.string f.name) := (hbl.cell (p := ⟨g, k * 2, none⟩) hgl).trans a0
      have e1 : wr.cell? ⟨g, k * 2 + 1, none⟩ = some (.slice (some ⟨f.g, o, none⟩) f.c.size c) := (hbl.cell (p := ⟨g, k * 2 + 1, none⟩) hgl).trans a1
      have f1 : wr.cell? ⟨g', k * 2 + 1, none⟩ = some (.slice (some ⟨f'.g, o', none⟩) f.c.size c') := (hbl.cell (p := ⟨g', k * 2 + 1, none⟩) hgl').trans b1
      have kc : ∀ q, (convert 59 9 (.slice (some ⟨f.g, o, none⟩) f.c.size c)).run Tryz.prog (wr.drewN q) = .ok (.string f.c) (wr.drewN q) := fun q => byt_back (wr.drewN q) f.g o f.c c q3
      have kc' : ∀ q, (convert 59 9 (.slice (some ⟨f'.g, o', none⟩) f.c.size c')).run Tryz.prog (wr.drewN q) = .ok (.string f.c) (wr.drewN q) := fun q => byt_back (wr.drewN q) f'.g o' f.c c' q3'
      have HF : Hid (Calls Tryz.prog 21 #[.slice (some ⟨g', 0, none⟩) n cap', .string f.name] wr fun e w' => e = .returned (.int .i64 k) ∧ w' = wr) := by
        refine rfind B' _ R' f.name wr (HH'.out.new hbl) k (Or.inr ⟨k, f', rfl, hf', hname, fun j f2 hj hf2 e2 => ?_⟩)
        have hnd' : (R'.map RF.name).Nodup := by
          have e3 : R'.map RF.name = R.map RF.name := by
            have := congrArg (List.map Prod.fst) HE.out
            rw [List.map_map, List.map_map] at this
            exact this.symm
          rw [e3]; exact HD.out
        have x1 : (R'.map RF.name)[j]? = some f.name := by rw [List.getElem?_map, hf2]; exact congrArg some e2
        have x2 : (R'.map RF.name)[k]? = some f.name := by rw [List.getElem?_map, hf']; exact congrArg some hname
        have := (List.getElem?_inj (by simpa using (List.getElem?_eq_some_iff.1 hf2).1) hnd').1 (x1.trans x2.symm)
        omega
      have HBL : Hid (Below w.heap.size w wr) := hbl
      have hx := str_eq f.c
      have hk0 : ¬ ((k : Nat) : Int) < 0 := by omega
      have hkd : decide (((k : Nat) : Int) < 0) = false := by simp
      clear a0 a1 b0 b1 hc hc' hf hf' hjl hjl' hbl hr hr' hv hv' q1 q2 q3 q1' q2' q3' hff hname hcont
      go_upto_region 7 with (go_at_call 21; refine Calls.mono HF.out ?_; rintro e w' ⟨rfl, hw⟩; rw [hw]; clear hw)
      open Go.BigFrame in go_big_quiet (fail)
      go_wp2
      go_roundw
      case rel => exact ⟨k + 1, by omega, by go_num, below_drewN HBL.out _⟩
      case measure => simp [intOf]; omega
    · have HBL : Hid (Below w.heap.size w wr) := hbl
      clear hbl
      obtain rfl : k = n := by omega
      go_wp2
      go_ret
      exact ⟨rfl, HBL.out⟩
end Go.Proofs.YtploagfjajlloaaGreatDoor
