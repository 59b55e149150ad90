import Derived.Test.YtploagfjajlloaaGreatDoorHeadA
namespace Go.Proofs.YtploagfjajlloaaGreatDoor
open Go.RowKit Jr

theorem seg4_str (nm : ByteArray) (h : nm.size = 12) : (nm.extract 0 4 = ⟨#[115, 101, 103, 45]⟩) ↔ ∀ i, i < 4 → byt nm i = [115, 101, 103, 45].getD i 0 := by
  have hs : (⟨#[115, 101, 103, 45]⟩ : ByteArray) = sOf [115, 101, 103, 45] := rfl
  constructor
  · intro he i hi
    rw [← byt_extract nm 4 i (by omega) hi, he]
    match i, hi with
    | 0, _ | 1, _ | 2, _ | 3, _ => rfl
  · intro hb
    apply ByteArray.ext
    apply Array.ext
    · show (nm.extract 0 4).size = 4; rw [size_extract0 nm 4 (by omega)]
    · intro i i1 i2
      have hi : i < 4 := i2
      have h1 := (byt_extract nm 4 i (by omega) hi).trans (hb i hi)
      unfold byt List.getD at h1
      rw [List.getElem?_eq_getElem (by simpa using i1)] at h1
      apply UInt8.toNat_inj.1
      match i, hi with
      | 0, _ | 1, _ | 2, _ | 3, _ => simpa using h1

set_option maxRecDepth 10000 in
set_option maxHeartbeats 2000000 in
theorem rsegment (nm : ByteArray) (w : World) (_hs : nm.size ≤ 9223372036854775807) :
    Calls Tryz.prog 27 #[.string nm] w fun e w' => e = .returned (.bool (isSeg nm)) ∧ w' = w := by
  by_cases h12 : nm.size = 12
  · have hx : (nm.size : Int) = 12 := by omega
    by_cases h4 : nm.extract 0 4 = ⟨#[115, 101, 103, 45]⟩
    · have H4 : Hid (∀ i, i < 4 → byt nm i = [115, 101, 103, 45].getD i 0) := (seg4_str nm h12).1 h4
      go_enter Tryz.func27, Tryz.ntmps27
      go_wp2
      go_loop [3] (fun i => ∃ k : Nat, k ≤ 8 ∧ i = .int .i64 (4 + k) ∧ Hid (∀ j, j < k → 48 ≤ byt nm (4 + j) ∧ byt nm (4 + j) ≤ 57)) (fun i => 12 - (intOf i).toNat)
      case atStart => exact ⟨0, by omega, rfl, fun j hj => by omega⟩
      case round =>
        obtain ⟨k, hk, rfl, hb⟩ := hrel
        by_cases hlt : k < 8
        · have t4 : ((4 : Int) + k).toNat = 4 + k := by omega
          have hkl : 4 + k < nm.size := by omega
          have hbk : byt nm (4 + k) = (nm[4 + k]).toNat := by
            unfold byt List.getD
            rw [List.getElem?_eq_getElem (by simpa using hkl)]; rfl
          have HBK : Hid (byt nm (4 + k) = (nm[4 + k]).toNat) := hbk
          by_cases d1 : byt nm (4 + k) < 48
          · have a1 : ((nm[4 + k]).toNat : Int) < 48 := by omega
            have HI : Hid (isSeg nm = false) := by
              show _ = _
              cases hh : isSeg nm with
              | false => rfl
              | true => have := (isSeg_iff.1 hh).2.2 k hlt; omega
            clear hbk d1
            go_wp2
            go_ret
            exact ⟨by rw [HI.out]; rfl, rfl⟩
          · by_cases d2 : 57 < byt nm (4 + k)
            · have a1 : ¬ ((nm[4 + k]).toNat : Int) < 48 := by omega
              have a2 : (57 : Int) < ((nm[4 + k]).toNat : Int) := by omega
              have HI : Hid (isSeg nm = false) := by
                show _ = _
                cases hh : isSeg nm with
                | false => rfl
                | true => have := (isSeg_iff.1 hh).2.2 k hlt; omega
              clear hbk d1 d2
              go_wp2
              go_ret
              exact ⟨by rw [HI.out]; rfl, rfl⟩
            · have a1 : ¬ ((nm[4 + k]).toNat : Int) < 48 := by omega
              have a2 : ¬ (57 : Int) < ((nm[4 + k]).toNat : Int) := by omega
              have HD : Hid (48 ≤ byt nm (4 + k) ∧ byt nm (4 + k) ≤ 57) := ⟨by omega, by omega⟩
              clear hbk d1 d2
              go_wp2
              go_round
              case rel => exact ⟨k + 1, by omega, by go_num, fun j hj => by
                rcases Nat.lt_or_ge j k with h | h
                · exact hb.out j h
                · rw [show j = k by omega]; exact HD.out⟩
              case measure => simp [intOf]; omega
        · obtain rfl : k = 8 := by omega
          have HI : Hid (isSeg nm = true) := isSeg_iff.2 ⟨h12, H4.out, hb.out⟩
          go_wp2
          go_ret
          exact ⟨by rw [HI.out]; rfl, rfl⟩
    · have HI : Hid (isSeg nm = false) := by
        show _ = _
        cases hh : isSeg nm with
        | false => rfl
        | true => exact absurd ((seg4_str nm h12).2 (isSeg_iff.1 hh).2.1) h4
      have hq : ((nm.extract 0 4).toList == [115, 101, 103, 45]) = false := by
        have := str_ne h4
        rw [Lib.toList_data ⟨#[115, 101, 103, 45]⟩] at this; exact this
      go_enter Tryz.func27, Tryz.ntmps27
      go_wp2
      go_ret
      exact ⟨by rw [HI.out]; rfl, rfl⟩
  · have HI : Hid (isSeg nm = false) := by
      show _ = _
      cases hh : isSeg nm with
      | false => rfl
      | true => exact absurd (isSeg_iff.1 hh).1 h12
    have hx : ((nm.size : Int) != 12) = true := by simp; omega
    go_enter Tryz.func27, Tryz.ntmps27
    go_wp2
    go_ret
    exact ⟨by rw [HI.out]; rfl, rfl⟩
end Go.Proofs.YtploagfjajlloaaGreatDoor
