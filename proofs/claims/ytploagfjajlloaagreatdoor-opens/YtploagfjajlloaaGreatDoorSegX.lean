import Derived.Test.YtploagfjajlloaaGreatDoorHeadA
import Derived.Test.YtploagfjajlloaaGreatDoorShelf
import Derived.Lib.OwnBridge
import Derived.Sort.OwnSorted
import Derived.Sort.Walk0
namespace Go.Proofs.YtploagfjajlloaaGreatDoor
open Go.RowKit Jr

/-- A list of names that is read. -/
def NR (w : World) (v : Value) (ns : List ByteArray) : Prop := ∃ p cap, v = .slice p ns.length cap ∧ ns.length ≤ cap ∧ cap ≤ 9223372036854775807 ∧
  Hid (0 < ns.length → ∃ g, p = some ⟨g, 0, none⟩ ∧ g < w.heap.size ∧ ∀ (k : Nat) (nm : ByteArray), ns[k]? = some nm → w.cell? ⟨g, k, none⟩ = some (.string nm))
theorem nr_of_row {w : World} {B : Nat} {v : Value} {ns : List ByteArray} (h : w.ownsRow B 9 1 v ns.length (ns.map .string)) : NR w v ns := by
  obtain ⟨p, cap, hv, h1, h2, h3⟩ := row_shape h
  unfold maxLen at h2
  refine ⟨p, cap, hv, h1, by omega, fun h0 => ?_⟩
  obtain ⟨g, hp, _, hg, hc⟩ := h3 h0
  refine ⟨g, hp, hg, fun k nm hk => ?_⟩
  have hkl := (List.getElem?_eq_some_iff.1 hk).1
  rw [hc k (by omega)]; simp [hk]
theorem NR.on {w w' : World} {v : Value} {ns : List ByteArray} {B : Nat} (h : NR w v ns) (hb : Below B w w') (hB : ∀ p n c, v = .slice (some p) n c → p.block < B) : NR w' v ns := by
  obtain ⟨p, cap, hv, h1, h2, h3⟩ := h
  refine ⟨p, cap, hv, h1, h2, fun h0 => ?_⟩
  obtain ⟨g, hp, hg, hc⟩ := h3.out h0
  subst hp
  have hgB := hB _ _ _ hv
  exact ⟨g, rfl, Nat.lt_of_lt_of_le hg hb.size, fun k nm hk => (hb.cell (p := ⟨g, k, none⟩) hgB).trans (hc k nm hk)⟩
/-- Is a name on a list? -/
def isIn (ns : List ByteArray) (nm : ByteArray) : Bool := ns.any fun x => decide (x = nm)
theorem isIn_iff {ns : List ByteArray} {nm : ByteArray} : isIn ns nm = true ↔ nm ∈ ns := by
  simp only [isIn, List.any_eq_true, decide_eq_true_eq]
  constructor
  · rintro ⟨x, hx, rfl⟩; exact hx
  · intro h; exact ⟨nm, h, rfl⟩
abbrev blt (a b : ByteArray) : Prop := a.data.toList < b.data.toList
theorem less_iff (a b : ByteArray) : Op.bytesLess a.toList b.toList = decide (blt a b) := by rw [bytesLess_eq, Lib.toList_data, Lib.toList_data]

theorem search_spec (ns : List ByteArray) (nm : ByteArray) (hs : ns.Pairwise blt) : ∃ k, k ≤ ns.length ∧ (∀ t, t < k → Op.bytesLess ((ns[t]?).getD nm).toList nm.toList = true) ∧ (∀ t, k ≤ t → Op.bytesLess ((ns[t]?).getD nm).toList nm.toList = false) ∧ ((k < ns.length ∧ (ns[k]?).getD nm = nm) ↔ nm ∈ ns) := by
  induction ns with
  | nil => exact ⟨0, by simp, fun t ht => by omega, fun t _ => by simp [less_iff], by simp⟩
  | cons a ns ih =>
    rw [List.pairwise_cons] at hs
    obtain ⟨k, h1, h2, h3, h4⟩ := ih hs.2
    by_cases ha : blt a nm
    · refine ⟨k + 1, by simp; omega, fun t ht => ?_, fun t ht => ?_, ?_⟩
      · cases t with
        | zero => simpa [less_iff] using ha
        | succ t => simpa using h2 t (by omega)
      · cases t with
        | zero => omega
        | succ t => simpa using h3 t (by omega)
      · have hne : nm ≠ a := fun e => by subst e; exact List.lt_irrefl _ ha
        simp only [List.length_cons, Nat.add_lt_add_iff_right, List.getElem?_cons_succ, List.mem_cons, hne, false_or]
        exact h4
    · have hall : ∀ b ∈ a :: ns, ¬ blt b nm := fun b hb hlt => by
        rcases List.mem_cons.1 hb with rfl | hb
        · exact ha hlt
        · exact ha (List.lt_trans (hs.1 b hb) hlt)
      refine ⟨0, by simp, fun t ht => by omega, fun t _ => ?_, ?_⟩
      · rw [less_iff]
        cases hx : (a :: ns)[t]? with
        | none => simp
        | some b => simpa using hall b (List.mem_of_getElem? hx)
      · constructor
        · rintro ⟨_, h⟩
          simp at h; subst h; simp
        · intro hm
          refine ⟨by simp, ?_⟩
          rcases List.mem_cons.1 hm with rfl | hm
          · simp
          · exact absurd (hs.1 nm hm) ha

set_option maxRecDepth 10000 in
set_option maxHeartbeats 1000000 in
theorem jlisted (v : Value) (ns : List ByteArray) (nm : ByteArray) (w : World) (h : NR w v ns) (hs : ns.Pairwise blt) (hn : ns.length ≤ 1073741824) :
    Calls Tryz.prog 55 #[v, .string nm] w fun e w' => e = .returned (.bool (isIn ns nm)) ∧ Below w.heap.size w w' := by
  have HC : Hid (∃ i : Int, Calls Tryz.prog 91 #[v, .string nm] w fun e w' => e = .returned (.tuple #[.int .i64 i, .bool (isIn ns nm)]) ∧ Below w.heap.size w w') := by
    obtain ⟨p, cap, rfl, h1, h2, h3⟩ := h
    by_cases h0 : 0 < ns.length
    · obtain ⟨g, rfl, hg, hc⟩ := h3.out h0
      obtain ⟨k, k1, k2, k3, k4⟩ := search_spec ns nm hs
      have hk := Lib.bsGo_spec (fun t => Op.bytesLess ((fun t => (ns[t]?).getD nm) t).toList nm.toList) k k2 k3 ns.length 0 ns.length (by omega) (by omega) k1
      refine ⟨(k : Nat), (Any2.slices_BinarySearch_string Tryz.lays2n26 g 0 ns.length cap (fun t => (ns[t]?).getD nm) nm w (by omega) (fun j hj => ?_)).mono fun e w' ⟨he, q, hw⟩ => ⟨?_, ?_⟩⟩
      · obtain ⟨b, hb⟩ : ∃ b, ns[j]? = some b := ⟨_, List.getElem?_eq_getElem hj⟩
        rw [Nat.zero_add, hc j b hb]; simp [hb]
      · rw [he, hk]
        have : decide (k < ns.length ∧ (fun t => (ns[t]?).getD nm) k = nm) = isIn ns nm := by
          rw [Bool.eq_iff_iff, decide_eq_true_eq, isIn_iff]; exact k4
        rw [this]
      · rw [hw]; exact below_drewN (Below.refl _ _) _
    · obtain rfl : ns = [] := List.eq_nil_of_length_eq_zero (by omega)
      exact ⟨0, (Any2.slices_BinarySearch_string_empty Tryz.lays2n26 p cap nm w).mono fun e w' ⟨he, hw⟩ => ⟨by rw [he]; rfl, by rw [hw]; exact Below.refl _ _⟩⟩
  obtain ⟨i, HI⟩ := HC.out
  have HI' : Hid (Calls Tryz.prog 91 #[v, .string nm] w fun e w' => e = .returned (.tuple #[.int .i64 i, .bool (isIn ns nm)]) ∧ Below w.heap.size w w') := HI
  clear HC HI h
  go_enter Tryz.func55, Tryz.ntmps55
  go_wp2_with (go_at_call 91; refine Calls.mono HI'.out ?_; rintro e W ⟨rfl, hb⟩)
  go_ret
  exact ⟨rfl, hb⟩

/-! Is a name one of a segment? -/
theorem trim_nil (l cs : List UInt8) : Lib.trimS l cs = [] ↔ ∀ x ∈ l, cs.contains x = true := by
  have dw : ∀ (m : List UInt8) (p : UInt8 → Bool), m.dropWhile p = [] ↔ ∀ x ∈ m, p x = true := fun m p => by
    induction m with
    | nil => simp
    | cons a m ih =>
      cases h : p a with
      | true => simp [h, ih]
      | false => simp [h]
  unfold Lib.trimS Lib.trimLeftS Lib.trimRightS
  rw [dw]
  constructor
  · intro h
    have h2 : l.reverse.dropWhile (cs.contains ·) = [] := by
      cases hd : l.reverse.dropWhile (cs.contains ·) with
      | nil => rfl
      | cons a m =>
        have h3 := h a (by rw [hd]; simp)
        have h4 := List.head_dropWhile_not (cs.contains ·) (l := l.reverse) (by rw [hd]; simp)
        simp only [hd, List.head_cons] at h4
        rw [h3] at h4; cases h4
    intro x hx
    exact (dw _ _).1 h2 x (by simpa using hx)
  · intro h x hx
    have : l.reverse.dropWhile (cs.contains ·) = [] := (dw _ _).2 fun y hy => h y (by simpa using hy)
    rw [this] at hx; simp at hx
abbrev dig10 : ByteArray := ⟨#[48, 49, 50, 51, 52, 53, 54, 55, 56, 57]⟩
set_option maxRecDepth 20000 in
theorem dig10_mem (x : UInt8) : dig10.data.toList.contains x = true ↔ 48 ≤ x.toNat ∧ x.toNat ≤ 57 := by
  have h : ∀ n, n < 256 → (dig10.data.toList.contains (UInt8.ofNat n) = true ↔ 48 ≤ n ∧ n ≤ 57) := by decide
  have := h x.toNat (UInt8.toNat_lt x)
  simpa using this
theorem pre_seg (nm : ByteArray) : Lib.hasPrefix nm.data.toList [115, 101, 103, 45] = true ↔ 4 ≤ nm.size ∧ ∀ i, i < 4 → byt nm i = [115, 101, 103, 45].getD i 0 := by
  unfold Lib.hasPrefix byt
  have hsz : nm.size = nm.data.toList.length := by simp
  rw [hsz]
  generalize nm.data.toList = l
  match l with
  | [] => simp
  | [a] => simp [List.isPrefixOf]
  | [a, b] => simp [List.isPrefixOf]
  | [a, b, c] => simp [List.isPrefixOf]
  | a :: b :: c :: d :: l =>
    simp only [List.isPrefixOf, Bool.and_eq_true, beq_iff_eq, and_true, List.length_cons]
    constructor
    · rintro ⟨h1, h2, h3, h4⟩
      refine ⟨by omega, fun i hi => ?_⟩
      subst h1 h2 h3 h4
      match i, hi with
      | 0, _ | 1, _ | 2, _ | 3, _ => rfl
    · rintro ⟨_, h⟩
      have e0 := h 0 (by omega)
      have e1 := h 1 (by omega)
      have e2 := h 2 (by omega)
      have e3 := h 3 (by omega)
      simp [List.getD] at e0 e1 e2 e3
      exact ⟨(UInt8.toNat_inj.1 e0).symm, (UInt8.toNat_inj.1 e1).symm, (UInt8.toNat_inj.1 e2).symm, (UInt8.toNat_inj.1 e3).symm⟩
theorem isSeg_parts (nm : ByteArray) : isSeg nm = (Lib.hasPrefix nm.data.toList [115, 101, 103, 45] && decide (nm.size = 12) && decide (Lib.trimS (nm.data.toList.drop 4) dig10.data.toList = [])) := by
  rw [Bool.eq_iff_iff, isSeg_iff, Bool.and_eq_true, Bool.and_eq_true, pre_seg, decide_eq_true_eq, decide_eq_true_eq, trim_nil]
  constructor
  · rintro ⟨h1, h2, h3⟩
    refine ⟨⟨⟨by omega, h2⟩, h1⟩, fun x hx => ?_⟩
    obtain ⟨j, hj, rfl⟩ := List.getElem_of_mem hx
    have hj8 : j < 8 := by simp at hj; omega
    have := h3 j hj8
    rw [dig10_mem]
    unfold byt List.getD at this
    rw [List.getElem?_eq_getElem (by simp; omega)] at this
    simpa using this
  · rintro ⟨⟨⟨_, h2⟩, h1⟩, h3⟩
    refine ⟨h1, h2, fun i hi => ?_⟩
    have hl : 4 + i < nm.data.toList.length := by simp; omega
    have hm : nm.data.toList[4 + i] ∈ nm.data.toList.drop 4 := by
      rw [List.mem_iff_getElem]
      exact ⟨i, by simp; omega, by simp⟩
    have := (dig10_mem _).1 (h3 _ hm)
    unfold byt List.getD
    rw [List.getElem?_eq_getElem hl]
    simpa using this

theorem drop_size (nm : ByteArray) (n : Nat) : (⟨(nm.data.toList.drop n).toArray⟩ : ByteArray).size = nm.size - n := by
  show (nm.data.toList.drop n).toArray.size = _; simp
set_option maxRecDepth 10000 in
set_option maxHeartbeats 2000000 in
theorem jisseg (nm : ByteArray) (w : World) (hs : nm.size ≤ 9223372036854775807) :
    Calls Tryz.prog 50 #[.string nm] w fun e w' => e = .returned (.bool (isSeg nm)) ∧ Below w.heap.size w w' := by
  have HP := isSeg_parts nm
  cases hp : Lib.hasPrefix nm.data.toList [115, 101, 103, 45] with
  | false =>
    have HC : Hid (Calls Tryz.prog 85 #[.string nm, .string ⟨#[115, 101, 103, 45]⟩] w fun e w' => e = .returned (.tuple #[.string nm, .bool false]) ∧ w' = w) :=
      (Tryz.strings_CutPrefix nm ⟨#[115, 101, 103, 45]⟩ w).mono fun e w' ⟨he, hw⟩ => ⟨by
        rw [he]
        have e1 : Lib.hasPrefix nm.data.toList (⟨#[115, 101, 103, 45]⟩ : ByteArray).data.toList = false := hp
        unfold Lib.trimPrefix
        rw [e1]; rfl, hw⟩
    rw [hp] at HP
    have HI : Hid (isSeg nm = false) := HP
    clear HP
    go_enter Tryz.func50, Tryz.ntmps50
    go_wp2_with (go_at_call 85; refine Calls.mono HC.out ?_; rintro e w' ⟨rfl, hw⟩; rw [hw]; clear hw)
    go_ret
    exact ⟨by rw [HI.out]; rfl, Below.refl _ _⟩
  | true =>
    have h4 : 4 ≤ nm.size := ((pre_seg nm).1 hp).1
    obtain ⟨D, hD⟩ : ∃ D : ByteArray, D = ⟨(nm.data.toList.drop 4).toArray⟩ := ⟨_, rfl⟩
    have hDs : D.size = nm.size - 4 := by rw [hD]; exact drop_size nm 4
    have HC : Hid (Calls Tryz.prog 85 #[.string nm, .string ⟨#[115, 101, 103, 45]⟩] w fun e w' => e = .returned (.tuple #[.string D, .bool true]) ∧ w' = w) :=
      (Tryz.strings_CutPrefix nm ⟨#[115, 101, 103, 45]⟩ w).mono fun e w' ⟨he, hw⟩ => ⟨by
        rw [he, hD]
        have e1 : Lib.hasPrefix nm.data.toList (⟨#[115, 101, 103, 45]⟩ : ByteArray).data.toList = true := hp
        unfold Lib.trimPrefix
        rw [e1]; rfl, hw⟩
    rw [hp, Bool.true_and] at HP
    by_cases h12 : nm.size = 12
    · obtain ⟨T, hT⟩ : ∃ T : ByteArray, T = ⟨(Lib.trimS D.data.toList dig10.data.toList).toArray⟩ := ⟨_, rfl⟩
      have HT : Hid (Calls Tryz.prog 86 #[.string D, .string dig10] w fun e w' => e = .returned (.string T) ∧ Below w.heap.size w w') := by
        show Calls _ _ _ _ _
        rw [hT]
        exact Any.strings_Trim_laid Tryz.lays160 (by kernel_rfl) D dig10 w (by omega) (by decide) (ascii_of_all (by decide))
      have HE : Hid (isSeg nm = T.toList.isEmpty) := by
        show _ = _
        rw [HP, h12, Lib.toList_data, hT]
        have e1 : D.data.toList = nm.data.toList.drop 4 := by rw [hD]
        rw [e1]
        cases hx : Lib.trimS (nm.data.toList.drop 4) dig10.data.toList with
        | nil => simp
        | cons a m => simp
      have hd8 : (D.size : Int) = 8 := by omega
      clear HP hD hT hDs hp
      go_enter Tryz.func50, Tryz.ntmps50
      go_wp2_with (first
        | (go_at_call 85; refine Calls.mono HC.out ?_; rintro e w' ⟨rfl, hw⟩; rw [hw]; clear hw)
        | (go_at_call 86; refine Calls.mono HT.out ?_; rintro e W ⟨rfl, hb⟩))
      go_ret
      exact ⟨by rw [HE.out]; rfl, hb⟩
    · have HI : Hid (isSeg nm = false) := by
        show _ = _
        rw [HP]; simp [h12]
      have hd8 : ((D.size : Int) == 8) = false := by rw [beq_eq_false_iff_ne]; omega
      clear HP hD hDs hp
      go_enter Tryz.func50, Tryz.ntmps50
      go_wp2_with (go_at_call 85; refine Calls.mono HC.out ?_; rintro e w' ⟨rfl, hw⟩; rw [hw]; clear hw)
      go_ret
      exact ⟨by rw [HI.out]; rfl, Below.refl _ _⟩
end Go.Proofs.YtploagfjajlloaaGreatDoor
namespace Go.Proofs.YtploagfjajlloaaGreatDoor
open Go.RowKit Jr

theorem dec_dgs (n : Nat) (hn : 0 < n) (b : Nat) (hb : b < 10 ^ n) : (dgs n b).map UInt8.ofNat = List.replicate (n - (Lib.decDigits b).length) 48 ++ Lib.decDigits b ∧ (Lib.decDigits b).length ≤ n ∧ 0 < (Lib.decDigits b).length := by
  induction n generalizing b with
  | zero => omega
  | succ n ih =>
    by_cases h10 : b < 10
    · have hd : Lib.decDigits b = [UInt8.ofNat (48 + b)] := by rw [Lib.decDigits, dif_pos h10]
      rw [hd]
      refine ⟨?_, by simp, by simp⟩
      rcases Nat.eq_zero_or_pos n with rfl | hn'
      · simp [dgs, Nat.mod_eq_of_lt h10]
      · have hz : Lib.decDigits 0 = [UInt8.ofNat 48] := by rw [Lib.decDigits, dif_pos (by omega)]
        have := (ih hn' 0 (Nat.pos_of_ne_zero (by simp))).1
        rw [hz] at this
        simp only [dgs, List.map_append, Nat.div_eq_of_lt h10, this, Nat.mod_eq_of_lt h10, List.map_cons, List.map_nil, List.length_singleton, Nat.add_sub_cancel]
        have e : List.replicate n (48 : UInt8) = List.replicate (n - 1) 48 ++ [48] := by
          rw [← List.replicate_succ', Nat.sub_add_cancel hn']
        rw [e]; rfl
    · have hd : Lib.decDigits b = Lib.decDigits (b / 10) ++ [UInt8.ofNat (48 + b % 10)] := by rw [Lib.decDigits, dif_neg h10]
      have hn' : 0 < n := by
        rcases Nat.eq_zero_or_pos n with rfl | h
        · simp at hb; omega
        · exact h
      obtain ⟨h1, h2, h3⟩ := ih hn' (b / 10) (by rw [Nat.pow_succ] at hb; omega)
      rw [hd]
      refine ⟨?_, by simp; omega, by simp⟩
      simp only [dgs, List.map_append, h1, List.map_cons, List.map_nil, List.length_append, List.length_singleton]
      rw [show n + 1 - ((Lib.decDigits (b / 10)).length + 1) = n - (Lib.decDigits (b / 10)).length by omega, List.append_assoc]
theorem sOf_data (l : List Nat) : (sOf l).data.toList = l.map UInt8.ofNat := by
  unfold sOf
  rw [strOfNums_data, List.map_map]
  apply List.map_congr_left
  intro x _
  simp
theorem repeatL_one (c : Nat) : Lib.repeatL [48] c = List.replicate c 48 := by
  induction c with
  | zero => rfl
  | succ c ih => rw [Lib.repeatL, ih]; rfl
theorem name_parts (b : Nat) (hb : b < 100000000) : ((⟨#[115, 101, 103, 45]⟩ : ByteArray) ++ ⟨(Lib.repeatL [48] (8 - (Lib.decDigits b).length)).toArray⟩) ++ ⟨(Lib.decDigits b).toArray⟩ = nameOf b := by
  apply ByteArray.ext
  apply Array.toList_inj.1
  unfold nameOf nameL
  rw [sOf_data, List.map_append, (dec_dgs 8 (by omega) b hb).1, repeatL_one]
  simp
theorem below_grow (w : World) (k : Nat) (os : Array Obj) : Below w.heap.size w (Go.Sort.grow (w.drewN k) os) :=
  ⟨rfl, rfl, rfl, by show w.heap.size ≤ (w.heap ++ os).size; simp, fun i hi => by
    show ((w.drewN k).heap ++ os)[i]? = _
    rw [Array.getElem?_append_left (by exact hi)]; rfl⟩
abbrev Tab (w : World) : Prop := Lib.TabIs Tryz.prog w "internal/strconv.uint64pow10" .u64 Lib.pow10Tab

set_option maxRecDepth 10000 in
set_option maxHeartbeats 2000000 in
theorem jsegname (b : Nat) (w : World) (hb : b < 100000000) (ht : Tab w) :
    Calls Tryz.prog 54 #[.int .i64 b] w fun e w' => e = .returned (.string (nameOf b)) ∧ Below w.heap.size w w' := by
  obtain ⟨-, h2, h3⟩ := dec_dgs 8 (by omega) b hb
  obtain ⟨D, hD⟩ : ∃ D : ByteArray, D = ⟨(Lib.decDigits b).toArray⟩ := ⟨_, rfl⟩
  have hDs : D.size = (Lib.decDigits b).length := by rw [hD]; rfl
  obtain ⟨c, hc⟩ : ∃ c, c = 8 - (Lib.decDigits b).length := ⟨_, rfl⟩
  obtain ⟨R, hR⟩ : ∃ R : ByteArray, R = ⟨(Lib.repeatL [48] c).toArray⟩ := ⟨_, rfl⟩
  have hRs : R.size = c := by rw [hR, repeatL_one]; show (List.replicate c (48 : UInt8)).toArray.size = c; simp
  have HF : Hid (Calls Tryz.prog 89 #[.int .i64 b, .int .i64 10] w fun e w' => e = .returned (.string D) ∧ Below w.heap.size w w') :=
    (Tryz.strconv_FormatInt_10 b (by omega) (by omega) w ht).mono fun e w' ⟨he, k, os, hw⟩ => ⟨by
      rw [he, hD]
      unfold Lib.itoa
      rw [if_neg (by omega)]; rfl, by rw [hw]; exact below_grow w k os⟩
  have HRp : Hid (∀ W, Calls Tryz.prog 90 #[.string ⟨#[48]⟩, .int .i64 c] W fun e w' => e = .returned (.string R) ∧ Below W.heap.size W w') := fun W => by
    rw [hR]
    exact Tryz.strings_Repeat ⟨#[48]⟩ c W (by omega) (by show 1 * c ≤ _; omega)
  have HE : Hid (((⟨#[115, 101, 103, 45]⟩ : ByteArray) ++ R) ++ D = nameOf b) := by show _ = _; rw [hR, hD, hc]; exact name_parts b hb
  have hd : (D.size : Int) = 8 - c := by omega
  have hmx : (8 : Int) - (8 - (c : Int)) = c := by omega
  have hm2 : ¬ (8 : Int) - (D.size : Int) < 0 := by omega
  have hcc : c ≤ 7 := by omega
  have s1 : ¬ 9223372036854775807 < 4 + R.size := by omega
  have s2 : ¬ 9223372036854775807 < 4 + R.size + D.size := by omega
  clear hD hR hc h2 h3 hDs ht
  go_enter Tryz.func54, Tryz.ntmps54
  go_upto_region 2 with (go_at_call 89; refine Calls.mono HF.out ?_; rintro e W1 ⟨rfl, hb1⟩)
  go_wp2_with (go_at_call 90; refine Calls.mono (HRp.out W1) ?_; rintro e W2 ⟨rfl, hb2⟩)
  go_ret
  exact ⟨by rw [← HE.out]; rfl, hb1.trans (hb2.mono hb1.size)⟩
end Go.Proofs.YtploagfjajlloaaGreatDoor
