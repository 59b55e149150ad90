import Derived.Test.YtploagfjajlloaaGreatDoorFr
import Derived.Test.YtploagfjajlloaaGreatDoorRfA
import Derived.Deep.RegionHeld3
namespace Go.Proofs.YtploagfjajlloaaGreatDoor
open Go.RowKit Jr

/-- A file of the disk: where it lies, its name, what is safe of it, what stands there. -/
structure DF where
  blk : Nat
  name : ByteArray
  safe : ByteArray
  now : ByteArray
  sv : Value
  sg : Nat
  nv : Value
  ng : Nat
abbrev fcells (f : DF) : Array Value := #[.string f.name, f.sv, f.nv, .bool true]
structure FileIs (w : World) (f : DF) : Prop where
  obj : w.heap[f.blk]? = some (.cells (fcells f) 69 (0, 0))
  sb : BS w f.sv f.sg f.safe
  nb : BS w f.nv f.ng f.now
abbrev dcells (v : Value) (c s x : Int) : Array Value := #[v, .int .i64 c, .int .i64 0, .bool false, .int .i64 0, .pointer none, .int .i64 s, .int .i64 x]
abbrev DObj (w : World) (d : Nat) (v : Value) (c s x : Int) : Prop := w.heap[d]? = some (.cells (dcells v c s x) 65 (0, 0))
abbrev fptr (f : DF) : Value := .pointer (some ⟨f.blk, 0, none⟩)
structure Dk (w : World) (d : Nat) (v : Value) (L : List DF) (c s x : Int) : Prop where
  obj : DObj w d v c s x
  row : w.ownsRow 0 66 1 v L.length (L.map fptr)
  files : ∀ f ∈ L, FileIs w f
  nd : (L.map DF.blk).Nodup

set_option maxRecDepth 10000 in
set_option maxHeartbeats 1000000 in
theorem denter (d : Nat) (v : Value) (c s x : Int) (w : World) (h : DObj w d v c s x) :
    Calls Tryz.prog 215 #[.pointer (some ⟨d, 0, none⟩)] w fun e w' => e = .returned (.int .i64 0) ∧ w'.heap = (w.setCell ⟨d, 1, none⟩ (.int .i64 (wrap64 (c + 1)))).heap ∧ Kp (· = d) w w' := by
  have c1 : w.cell? ⟨d, 1, none⟩ = some (.int .i64 c) := cell_obj h
  have c2 : w.cell? ⟨d, 2, none⟩ = some (.int .i64 0) := cell_obj h
  have c3 : w.cell? ⟨d, 3, none⟩ = some (.bool false) := cell_obj h
  have c5 : w.cell? ⟨d, 5, none⟩ = some (.pointer none) := cell_obj h
  have f1 : w.frozen? ⟨d, 1, none⟩ = false := frozen_obj h
  have hb : d < w.heap.size := heap_lt h
  clear h
  go_enter Tryz.func215, Tryz.ntmps215
  go_wp2
  go_region
  go_wp2
  go_ret
  exact ⟨rfl, rfl, ((Kp.refl (· = d) w).setCell (a := ⟨d, 1, none⟩) (fun _ => rfl) _).drew⟩

/-- The blocks of a disk. -/
def DFoot (d : Nat) (v : Value) (L : List DF) (k : Nat) : Prop := k = d ∨ v.ownBlock = some k ∨ ∃ f ∈ L, k = f.blk ∨ k = f.sg ∨ k = f.ng
theorem row_tag {w : World} {B : Nat} {e : TypeId} {size : Nat} {v : Value} {n : Nat} {xs : List Value} (h : w.ownsRow B e size v n xs) {k : Nat} (hk : v.ownBlock = some k) : ∃ C, w.heap[k]? = some (.cells C e (0, 0)) := by
  rcases h.2 with ⟨rfl, _⟩ | ⟨g, cap, cur, rfl, hb, hg, r⟩
  · cases hk
  · cases hk; exact ⟨cur, hg⟩
theorem FileIs.of_same {w w' : World} {f : DF} (h : FileIs w f) (h0 : w'.heap[f.blk]? = w.heap[f.blk]?) (h1 : w'.heap[f.sg]? = w.heap[f.sg]?) (h2 : w'.heap[f.ng]? = w.heap[f.ng]?) : FileIs w' f :=
  ⟨h0.trans h.obj, h.sb.of_same h1, h.nb.of_same h2⟩
theorem Dk.lt {w : World} {d : Nat} {v : Value} {L : List DF} {c s x : Int} (h : Dk w d v L c s x) {k : Nat} (hk : DFoot d v L k) : k < w.heap.size := by
  rcases hk with rfl | hk | ⟨f, hf, hk⟩
  · exact heap_lt h.obj
  · obtain ⟨C, hC⟩ := row_tag h.row hk; exact heap_lt hC
  · have := h.files f hf
    rcases hk with rfl | rfl | rfl
    · exact heap_lt this.obj
    · exact this.sb.lt
    · exact this.nb.lt
theorem Dk.kp {F : Nat → Prop} {w w' : World} {d : Nat} {v : Value} {L : List DF} {c s x : Int} (h : Dk w d v L c s x) (hk : Kp F w w') (hF : ∀ k, DFoot d v L k → ¬ F k) : Dk w' d v L c s x :=
  ⟨hk.obj (hF _ (Or.inl rfl)) h.obj, row_on h.row hk (fun k e => hF k (Or.inr (Or.inl e))), fun f hf => (h.files f hf).of_same (hk.block _ (heap_lt (h.files f hf).obj) (hF _ (Or.inr (Or.inr ⟨f, hf, Or.inl rfl⟩)))) (hk.block _ (h.files f hf).sb.lt (hF _ (Or.inr (Or.inr ⟨f, hf, Or.inr (Or.inl rfl)⟩)))) (hk.block _ (h.files f hf).nb.lt (hF _ (Or.inr (Or.inr ⟨f, hf, Or.inr (Or.inr rfl)⟩)))), h.nd⟩
theorem Dk.new {w w' : World} {d : Nat} {v : Value} {L : List DF} {c s x : Int} (h : Dk w d v L c s x) (hk : Below w.heap.size w w') : Dk w' d v L c s x :=
  h.kp (F := fun _ => False) (Kp.of_new hk) (fun _ _ hf => hf)
theorem tag_ne {w : World} {i j : Nat} {a b : Array Value} {s t : TypeId} {p q : Nat × Nat} (h1 : w.heap[i]? = some (.cells a s p)) (h2 : w.heap[j]? = some (.cells b t q)) (hne : s ≠ t) : i ≠ j := fun e => by
  subst e; rw [h1] at h2; injection h2 with h2; injection h2 with _ h3 _; exact hne h3
/-- The disk's own block alone has turned. -/
theorem Dk.touch {w w' : World} {d : Nat} {v : Value} {L : List DF} {c s x c' s' x' : Int} (h : Dk w d v L c s x) (hk : Kp (· = d) w w') (ho : DObj w' d v c' s' x') : Dk w' d v L c' s' x' := by
  refine ⟨ho, row_on h.row hk (fun k e => ?_), fun f hf => ?_, h.nd⟩
  · obtain ⟨C, hC⟩ := row_tag h.row e
    exact tag_ne hC h.obj (by decide)
  · have hfi := h.files f hf
    obtain ⟨C1, r1, t1⟩ := hfi.sb.tag
    obtain ⟨C2, r2, t2⟩ := hfi.nb.tag
    exact hfi.of_same (hk.block _ (heap_lt hfi.obj) (tag_ne hfi.obj h.obj (by decide))) (hk.block _ (heap_lt t1) (tag_ne t1 h.obj (by decide))) (hk.block _ (heap_lt t2) (tag_ne t2 h.obj (by decide)))
theorem Dk.entered {w w' : World} {d : Nat} {v : Value} {L : List DF} {c s x y : Int} (h : Dk w d v L c s x) (hk : Kp (· = d) w w') (hh : w'.heap = (w.setCell ⟨d, 1, none⟩ (.int .i64 y)).heap) : Dk w' d v L y s x :=
  h.touch hk (by show w'.heap[d]? = _; rw [hh, obj_setCell_same h.obj]; rfl)

set_option maxRecDepth 10000 in
set_option maxHeartbeats 1000000 in
theorem dfind (d : Nat) (v : Value) (L : List DF) (c s x : Int) (nm : ByteArray) (r : Value) (w : World) (h : Dk w d v L c s x)
    (hr : (r = .pointer none ∧ ∀ f ∈ L, f.name ≠ nm) ∨ ∃ (i : Nat) (f : DF), L[i]? = some f ∧ r = fptr f ∧ f.name = nm ∧ ∀ (j : Nat) (f' : DF), j < i → L[j]? = some f' → f'.name ≠ nm) :
    Calls Tryz.prog 22 #[.pointer (some ⟨d, 0, none⟩), .string nm] w fun e w' => e = .returned r ∧ w' = w := by
  obtain ⟨p, cap, rfl, hcap, hmax, hp⟩ := row_shape h.row
  obtain ⟨n, hn⟩ : ∃ n, L.length = n := ⟨_, rfl⟩
  rw [hn] at hcap hp
  unfold maxLen at hmax
  have c0 : w.cell? ⟨d, 0, none⟩ = some (.slice p n cap) := by rw [cell_obj h.obj, ← hn]; rfl
  have HF : Hid (∀ (i : Nat) (f : DF), L[i]? = some f → w.cell? ⟨f.blk, 0, none⟩ = some (.string f.name)) := fun i f hf => cell_obj (h.files f (List.mem_of_getElem? hf)).obj
  have HP : Hid (0 < n → ∃ g, p = some ⟨g, 0, none⟩ ∧ ∀ j, j < n → w.cell? ⟨g, j, none⟩ = (L.map fptr)[j]?) := fun h0 => by
    obtain ⟨g, e, _, _, hg⟩ := hp h0
    exact ⟨g, e, fun j hj => hg j (by omega)⟩
  have HR : Hid _ := hr
  have HN : Hid (L.length = n) := hn
  clear hp hr hn h
  go_enter Tryz.func22, Tryz.ntmps22
  go_wp2
  go_loop [12] (fun i => ∃ k : Nat, k ≤ n ∧ i = .int .i64 k ∧ Hid (∀ (j : Nat) (f : DF), j < k → L[j]? = some f → f.name ≠ nm)) (fun i => n - (intOf i).toNat)
  case atStart => exact ⟨0, Nat.zero_le _, rfl, fun j f hj => by omega⟩
  case round =>
    obtain ⟨k, hk, rfl, hb⟩ := hrel
    by_cases hlt : k < n
    · obtain ⟨g, rfl, hg⟩ := HP.out (by omega)
      have hLk : k < L.length := by rw [HN.out]; exact hlt
      obtain ⟨f, hf⟩ : ∃ f, L[k]? = some f := ⟨_, List.getElem?_eq_getElem hLk⟩
      have ck : w.cell? ⟨g, k, none⟩ = some (.pointer (some ⟨f.blk, 0, none⟩)) := by rw [hg k hlt]; simp [hf]
      have cf := HF.out k f hf
      have Hf : Hid (L[k]? = some f) := hf
      clear hg hf
      by_cases he : f.name = nm
      · rw [he] at cf
        have hx := str_eq nm
        go_wp2
        go_ret
        rcases HR.out with ⟨_, h⟩ | ⟨i, f', h1, rfl, h3, h4⟩
        · exact absurd he (h f (List.mem_of_getElem? Hf.out))
        · have : k = i := by
            rcases Nat.lt_trichotomy k i with h | h | h
            · exact absurd he (h4 k f h Hf.out)
            · exact h
            · exact absurd h3 (hb.out i f' h h1)
          subst this
          obtain rfl : f = f' := Option.some.inj (Hf.out.symm.trans h1)
          exact ⟨rfl, rfl⟩
      · have hq := str_ne he
        go_wp2
        go_round
        case rel => exact ⟨k + 1, by omega, by go_num, fun j f' hj hf' => by
          rcases Nat.lt_or_ge j k with h | h
          · exact hb.out j f' h hf'
          · obtain rfl : j = k := by omega
            obtain rfl : f = f' := Option.some.inj (Hf.out.symm.trans hf')
            exact he⟩
        case measure => simp [intOf]; omega
    · go_wp2
      go_ret
      rcases HR.out with ⟨rfl, h⟩ | ⟨i, f', h1, rfl, h3, h4⟩
      · exact ⟨rfl, rfl⟩
      · have : i < L.length := (List.getElem?_eq_some_iff.1 h1).1
        rw [HN.out] at this
        exact absurd h3 (hb.out i f' (by omega) h1)
end Go.Proofs.YtploagfjajlloaaGreatDoor
