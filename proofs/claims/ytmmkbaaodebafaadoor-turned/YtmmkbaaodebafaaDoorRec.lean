import Derived.Test.YtmmkbaaodebafaaDoorRecM
import Derived.Test.YtmmkbaaodebafaaDoorFrame
namespace Go.Proofs.YtmmkbaaodebafaaDoor
open Go.RowKit Jr

theorem digs_get (v k i : Nat) (h : i < k) : (digs v k).getD i 0 = dig v i := by simp [digs, List.getD, h]
theorem fr_lo (st d : ByteArray) (v p i : Nat) (h : i < 4) : (frL st d v p).getD i 0 = dig (17 + st.size + d.size) i := by
  unfold frL
  rw [getD_append_left _ _ _ (by simp [digs_length]; omega), getD_append_left _ _ _ (by simp [digs_length]; omega), digs_get _ _ _ h]
theorem fr_ck (st d : ByteArray) (v p i : Nat) (h : i < 4) : (frL st d v p).getD (4 + i) 0 = dig (crc (payL st d v p)) i := by
  unfold frL
  rw [getD_append_left _ _ _ (by simp [digs_length]; omega), getD_append_right _ _ _ (by simp [digs_length]), digs_length, show 4 + i - 4 = i by omega, digs_get _ _ _ h]
theorem fr_pay (st d : ByteArray) (v p i : Nat) : (frL st d v p).getD (8 + i) 0 = (payL st d v p).getD i 0 := by
  unfold frL
  rw [getD_append_right _ _ _ (by simp [digs_length])]
  congr 1; simp [digs_length]
theorem pay_0 (st d : ByteArray) (v p : Nat) : (payL st d v p).getD 0 0 = st.size := by
  simp [payL, List.getD]
theorem pay_st (st d : ByteArray) (v p i : Nat) (h : i < st.size) : (payL st d v p).getD (1 + i) 0 = (bs st).getD i 0 := by
  unfold payL
  rw [getD_append_left _ _ _ (by simp [digs_length, bs_length]; omega), getD_append_left _ _ _ (by simp [digs_length, bs_length]; omega), getD_append_left _ _ _ (by simp [bs_length]; omega), getD_append_right _ _ _ (by simp)]
  congr 1; simp
theorem pay_v (st d : ByteArray) (v p i : Nat) (h : i < 8) : (payL st d v p).getD (1 + st.size + i) 0 = dig v i := by
  unfold payL
  rw [getD_append_left _ _ _ (by simp [digs_length, bs_length]; omega), getD_append_left _ _ _ (by simp [digs_length, bs_length]; omega), getD_append_right _ _ _ (by simp [bs_length]; omega)]
  rw [show 1 + st.size + i - ([st.size] ++ bs st).length = i by simp [bs_length]; omega, digs_get _ _ _ h]
theorem pay_p (st d : ByteArray) (v p i : Nat) (h : i < 8) : (payL st d v p).getD (9 + st.size + i) 0 = dig p i := by
  unfold payL
  rw [getD_append_left _ _ _ (by simp [digs_length, bs_length]; omega), getD_append_right _ _ _ (by simp [bs_length, digs_length]; omega)]
  rw [show 9 + st.size + i - ([st.size] ++ bs st ++ digs v 8).length = i by simp [bs_length, digs_length]; omega, digs_get _ _ _ h]
theorem pay_d (st d : ByteArray) (v p i : Nat) : (payL st d v p).getD (17 + st.size + i) 0 = (bs d).getD i 0 := by
  unfold payL
  rw [getD_append_right _ _ _ (by simp [bs_length, digs_length]; omega)]
  congr 1; simp [bs_length, digs_length]; omega

theorem un_of_dig {z : Nat → Nat} {v k : Nat} (h : ∀ i, i < k → z i = dig v i) (hv : v < 256 ^ k) : un z k = v := by
  rw [un_congr h, un_dig, Nat.mod_eq_of_lt hv]
theorem i64of_id {v : Nat} (hv : v < 9223372036854775808) : i64of v = v := by
  unfold i64of; rw [IntKind.wrap_i64]; omega

theorem fr_len {st d : ByteArray} {v p : Nat} (hm : may st d v p = 0) {z : Nat → Nat} (hz : ∀ i, i < 4 → z i = (frL st d v p).getD i 0) : un z 4 = 17 + st.size + d.size := by
  obtain ⟨m0, m1, m2, _, _⟩ := may_zero hm
  exact un_of_dig (fun i hi => (hz i hi).trans (fr_lo st d v p i hi)) (by omega)

theorem parse_part {st d : ByteArray} {v p : Nat} (hm : may st d v p = 0) {z : Nat → Nat} {x : Nat} (hx : x < 25 + st.size + d.size) (hz : ∀ i, i < x → z i = (frL st d v p).getD i 0) : parseV z x = .short := by
  obtain ⟨m0, m1, m2, _, _⟩ := may_zero hm
  unfold parseV
  by_cases h8 : x < 8
  · rw [if_pos h8]
  · have hN := fr_len hm (fun i hi => hz i (by omega))
    rw [if_neg h8, hN, if_neg (by omega), if_pos (by omega)]

theorem parse_turned {st d : ByteArray} {v p : Nat} (hm : may st d v p = 0) {z : Nat → Nat} {i0 : Nat} (h4 : 4 ≤ i0) (hi0 : i0 < 25 + st.size + d.size) (hz : ∀ i, i < 25 + st.size + d.size → i ≠ i0 → z i = (frL st d v p).getD i 0) (hne : z i0 ≠ (frL st d v p).getD i0 0) (hb : z i0 < 256) :
    parseV z (25 + st.size + d.size) = .bad := by
  obtain ⟨m0, m1, m2, _, _⟩ := may_zero hm
  have hN := fr_len hm (fun i hi => hz i (by omega) (by omega))
  have hC : crc (payL st d v p) < 256 ^ 4 := crc_lt _ (payL_lt st d v p m1)
  have hlt := payL_lt st d v p m1
  unfold parseV
  rw [if_neg (by omega), hN, if_neg (by omega), if_neg (by omega), if_pos]
  by_cases h8 : i0 < 8
  · have e : seg z 8 (17 + st.size + d.size) = payL st d v p := seg_eq (payL_length st d v p) (fun i hi => by rw [hz _ (by omega) (by omega)]; exact fr_pay st d v p i)
    rw [e]
    intro hT
    have hb4 : ∀ i, i < 4 → z (4 + i) < 256 := fun i hi => by
      by_cases h : 4 + i = i0
      · rw [h]; exact hb
      · rw [hz _ (by omega) h, fr_ck _ _ _ _ _ hi]; exact dig_lt _ _
    have h1 := dig_un (fun i => z (4 + i)) 4 (i0 - 4) hb4 (by omega)
    rw [hT] at h1
    have h2 := fr_ck st d v p (i0 - 4) (by omega)
    rw [show 4 + (i0 - 4) = i0 by omega] at h1 h2
    exact hne (h1.symm.trans h2.symm)
  · have hT : un (fun i => z (4 + i)) 4 = crc (payL st d v p) := un_of_dig (fun i hi => (hz _ (by omega) (by omega)).trans (fr_ck st d v p i hi)) hC
    rw [hT]
    have hj : i0 - 8 < (payL st d v p).length := by rw [payL_length]; omega
    have e1 : payL st d v p = (payL st d v p).take (i0 - 8) ++ (payL st d v p).getD (i0 - 8) 0 :: (payL st d v p).drop (i0 - 8 + 1) := by
      simp [List.getD, hj]
    have e2 : seg z 8 (17 + st.size + d.size) = (payL st d v p).take (i0 - 8) ++ z i0 :: (payL st d v p).drop (i0 - 8 + 1) := by
      refine seg_eq (by rw [List.length_append, List.length_cons, List.length_take, List.length_drop]; rw [payL_length] at hj ⊢; omega) (fun i hi => ?_)
      have hl : ((payL st d v p).take (i0 - 8)).length = i0 - 8 := by rw [List.length_take]; omega
      by_cases c1 : i < i0 - 8
      · rw [getD_append_left _ _ _ (by omega), hz _ (by omega) (by omega), fr_pay]
        simp [List.getD, c1]
      · by_cases c2 : i = i0 - 8
        · rw [getD_append_right _ _ _ (by omega), hl, c2, show 8 + (i0 - 8) = i0 by omega]; simp
        · rw [getD_append_right _ _ _ (by omega), hl, hz _ (by omega) (by omega), fr_pay]
          obtain ⟨k, hk⟩ : ∃ k, i - (i0 - 8) = k + 1 := ⟨i - (i0 - 8) - 1, by omega⟩
          rw [hk]
          simp only [List.getD, List.getElem?_cons_succ, List.getElem?_drop]
          congr 2; omega
    rw [e2]
    intro hcc
    have hne' : (payL st d v p).getD (i0 - 8) 0 ≠ z i0 := by
      rw [← fr_pay, show 8 + (i0 - 8) = i0 by omega]; exact fun h => hne h.symm
    refine crc_turned ((payL st d v p).take (i0 - 8)) ((payL st d v p).drop (i0 - 8 + 1)) _ (z i0) (fun b hb => hlt b (List.mem_of_mem_take hb)) (fun b hb => hlt b (List.mem_of_mem_drop hb)) (getD_lt hlt _ hj) hb hne' ?_
    rw [← e1]; exact hcc

theorem parse_whole {st d : ByteArray} {v p : Nat} (hm : may st d v p = 0) (hv : v < 9223372036854775808) (hp : p < 9223372036854775808) {z : Nat → Nat} {len : Nat} (hlen : 25 + st.size + d.size ≤ len) (hz : ∀ i, i < 25 + st.size + d.size → z i = (frL st d v p).getD i 0) :
    parseV z len = ⟨v, p, st, d, 25 + st.size + d.size, 0⟩ := by
  obtain ⟨m0, m1, m2, _, _⟩ := may_zero hm
  have hN := fr_len hm (fun i hi => hz i (by omega))
  have hC : crc (payL st d v p) < 256 ^ 4 := crc_lt _ (payL_lt st d v p m1)
  have hT : un (fun i => z (4 + i)) 4 = crc (payL st d v p) := un_of_dig (fun i hi => (hz _ (by omega)).trans (fr_ck st d v p i hi)) hC
  have hy : ∀ i, i < 17 + st.size + d.size → z (8 + i) = (payL st d v p).getD i 0 := fun i hi => (hz _ (by omega)).trans (fr_pay st d v p i)
  have e : seg z 8 (17 + st.size + d.size) = payL st d v p := seg_eq (payL_length st d v p) hy
  have h0 : z 8 = st.size := (hy 0 (by omega)).trans (pay_0 st d v p)
  have hpay : payV (fun i => z (8 + i)) (17 + st.size + d.size) = ⟨v, p, st, d, 25 + st.size + d.size, 0⟩ := by
    unfold payV
    have a0 : (fun i => z (8 + i)) 0 = st.size := h0
    simp only [a0]
    have a1 : un (fun i => z (8 + (1 + st.size + i))) 8 = v := un_of_dig (fun i hi => (hy _ (by omega)).trans (pay_v st d v p i hi)) (by omega)
    have a2 : un (fun i => z (8 + (9 + st.size + i))) 8 = p := un_of_dig (fun i hi => (hy _ (by omega)).trans (pay_p st d v p i hi)) (by omega)
    have a3 : seg (fun i => z (8 + i)) 1 st.size = bs st := seg_eq (bs_length st) (fun i hi => (hy _ (by omega)).trans (pay_st st d v p i hi))
    have a4 : seg (fun i => z (8 + i)) (17 + st.size) (17 + st.size + d.size - (17 + st.size)) = bs d := seg_eq (by rw [bs_length]; omega) (fun i hi => (hy _ (by omega)).trans (pay_d st d v p i))
    rw [a1, a2, a3, a4, i64of_id hv, i64of_id hp, sOf_bs, sOf_bs]
    congr 1; omega
  unfold parseV
  rw [if_neg (by omega), hN, if_neg (by omega), if_neg (by omega), e, hT, if_neg (by simp), if_neg (by omega), hpay, if_pos hm]

end Go.Proofs.YtmmkbaaodebafaaDoor
