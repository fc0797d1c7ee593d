/- What Cat and Rep return, as lists of states: the last part's states first. -/
import Derived.Test.YtdpmojkpfnkcdaaDoorRepAny
import Derived.Test.YtdpmojkpfnkcdaaDoorRefB2
namespace Go.Proofs.YtdpmojkpfnkcdaaDoor
open Go Go.RowKit Go.Sort
set_option linter.unusedVariables false
/-- the states of a vector -/
def vlR (r : Rb) : List UInt8 := vl ⟨r.v, r.x⟩ r.W.toNat
/-- the states of the first k parts together -/
def revV (l : List Rb) : Nat → List UInt8
  | 0 => []
  | k + 1 => vlR (l.getD k ⟨0, 0#64, 0#64⟩) ++ revV l k
theorem vl_at (a : Vx) (n i : Nat) (h : i < (vl a n).length) : (vl a n)[i] = st a i := by
  have := vl_get a n i (by simpa [vl_len] using h)
  rw [List.getD_eq_getElem?_getD, List.getElem?_eq_getElem h] at this
  exact this
theorem vl_join (a b : Vx) (s m : Nat) (h : s + m ≤ 64) (hb : ∀ i, m ≤ i → b.v.getLsbD i = false ∧ b.x.getLsbD i = false) :
    vl ⟨a.v <<< m ||| b.v, a.x <<< m ||| b.x⟩ (m + s) = vl b m ++ vl a s := by
  apply List.ext_getElem
  · rw [List.length_append, vl_len, vl_len, vl_len]
  · intro i h1 h2
    have hi : i < m + s := by simpa [vl_len] using h1
    rw [vl_at]
    by_cases c : i < m
    · rw [List.getElem_append_left (by rw [vl_len]; exact c)]
      rw [vl_at]
      unfold st
      simp only [BitVec.getLsbD_or, BitVec.getLsbD_shiftLeft, c, decide_true, Bool.not_true, Bool.and_false, Bool.false_and, Bool.false_or]
    · rw [List.getElem_append_right (by rw [vl_len]; omega)]
      rw [vl_at, vl_len]
      obtain ⟨b1, b2⟩ := hb i (by omega)
      have h64 : i < 64 := by omega
      unfold st
      simp only [BitVec.getLsbD_or, BitVec.getLsbD_shiftLeft, c, b1, b2, h64, decide_true, decide_false, Bool.not_false, Bool.true_and, Bool.or_false]
theorem vlR_len {r : Rb} {n : Nat} (e : r.W = n) : (vlR r).length = n := by unfold vlR; rw [vl_len, e, Int.toNat_natCast]
theorem cat_states (l : List Rb) : ∀ k, (∀ j, j < k → (l.getD j ⟨0, 0#64, 0#64⟩).okB = true) → (revV l k).length ≤ 64 → catOk l k = true ∧ (catK l k).W = ((revV l k).length : Int) ∧ vl ⟨(catK l k).v, (catK l k).x⟩ (revV l k).length = revV l k ∧ ∀ i, (revV l k).length ≤ i → (catK l k).v.getLsbD i = false ∧ (catK l k).x.getLsbD i = false
  | 0 => fun _ _ => ⟨rfl, rfl, rfl, fun i _ => ⟨by show (0#64).getLsbD i = false; simp, by show (0#64).getLsbD i = false; simp⟩⟩
  | k + 1 => by
    intro hok hlen
    obtain ⟨n, e, o⟩ := Rb.ok_of (hok k (by omega))
    have hL := vlR_len e
    have hlen2 : (revV l (k + 1)).length = n + (revV l k).length := by show (vlR _ ++ revV l k).length = _; rw [List.length_append, hL]
    obtain ⟨i1, i2, i3, i4⟩ := cat_states l k (fun j hj => hok j (by omega)) (by omega)
    rw [hlen2] at hlen ⊢
    generalize (revV l k).length = s at *
    have hb : ∀ i, n ≤ i → (l.getD k ⟨0, 0#64, 0#64⟩).v.getLsbD i = false ∧ (l.getD k ⟨0, 0#64, 0#64⟩).x.getLsbD i = false := fun i hi => ⟨o.subv i hi, o.subx i hi⟩
    have hj := vl_join ⟨(catK l k).v, (catK l k).x⟩ ⟨(l.getD k ⟨0, 0#64, 0#64⟩).v, (l.getD k ⟨0, 0#64, 0#64⟩).x⟩ s n (by omega) hb
    refine ⟨?_, ?_, ?_, ?_⟩
    · show (catOk l k && _ && decide _) = true
      rw [i1, hok k (by omega), i2, e, decide_eq_true (by omega)]; rfl
    · show (catK l k).W + (l.getD k ⟨0, 0#64, 0#64⟩).W = _
      rw [i2, e]; omega
    · show vl ⟨(catK l k).v <<< (l.getD k ⟨0, 0#64, 0#64⟩).W.toNat ||| (l.getD k ⟨0, 0#64, 0#64⟩).v, (catK l k).x <<< (l.getD k ⟨0, 0#64, 0#64⟩).W.toNat ||| (l.getD k ⟨0, 0#64, 0#64⟩).x⟩ (n + s) = vlR (l.getD k ⟨0, 0#64, 0#64⟩) ++ revV l k
      have e2 : (l.getD k ⟨0, 0#64, 0#64⟩).W.toNat = n := by rw [e, Int.toNat_natCast]
      unfold vlR
      rw [e2, hj, i3]
    · intro i hi
      show ((catK l k).v <<< (l.getD k ⟨0, 0#64, 0#64⟩).W.toNat ||| (l.getD k ⟨0, 0#64, 0#64⟩).v).getLsbD i = false ∧ ((catK l k).x <<< (l.getD k ⟨0, 0#64, 0#64⟩).W.toNat ||| (l.getD k ⟨0, 0#64, 0#64⟩).x).getLsbD i = false
      have e2 : (l.getD k ⟨0, 0#64, 0#64⟩).W.toNat = n := by rw [e, Int.toNat_natCast]
      obtain ⟨b1, b2⟩ := hb i (by omega)
      obtain ⟨c1, c2⟩ := i4 (i - n) (by omega)
      rw [e2]
      simp only [BitVec.getLsbD_or, BitVec.getLsbD_shiftLeft, b1, b2, c1, c2, Bool.and_false, Bool.or_false, and_self]
theorem cat_long (l : List Rb) : ∀ k, (∀ j, j < k → (l.getD j ⟨0, 0#64, 0#64⟩).okB = true) → 64 < (revV l k).length → catOk l k = false
  | 0 => fun _ h => absurd h (by show ¬ 64 < 0; omega)
  | k + 1 => by
    intro hok hlen
    obtain ⟨n, e, o⟩ := Rb.ok_of (hok k (by omega))
    have hL := vlR_len e
    have hlen2 : (revV l (k + 1)).length = n + (revV l k).length := by show (vlR _ ++ revV l k).length = _; rw [List.length_append, hL]
    show (catOk l k && _ && decide _) = false
    by_cases c : (revV l k).length ≤ 64
    · obtain ⟨i1, i2, -, -⟩ := cat_states l k (fun j hj => hok j (by omega)) c
      rw [i2, e, decide_eq_false (by omega), Bool.and_false]
    · rw [cat_long l k (fun j hj => hok j (by omega)) (by omega)]; rfl
theorem cat_bad {l : List Rb} {j k : Nat} (hj : j < k) (h : (l.getD j ⟨0, 0#64, 0#64⟩).okB = false) : catOk l k = false := by
  refine catOk_mono l (j + 1) k (by omega) ?_
  show (catOk l j && _ && decide _) = false
  rw [h, Bool.and_false]; rfl
/-- Cat of any vectors, by their states -/
theorem catV_ok {l : List Rb} (h : ∀ j, j < l.length → (l.getD j ⟨0, 0#64, 0#64⟩).okB = true) : Bl (revV l l.length) = catV l := by
  unfold catV
  by_cases c : (revV l l.length).length ≤ 64
  · obtain ⟨i1, i2, i3, i4⟩ := cat_states l l.length h c
    rw [i1, if_pos rfl]
    by_cases c1 : 1 ≤ (revV l l.length).length
    · have ho : (⟨(catK l l.length).v, (catK l l.length).x⟩ : Vx).ok (revV l l.length).length := ok_mk c1 c (fun i hi => (i4 i hi).1) (fun i hi => (i4 i hi).2)
      rw [Bl_map ho i3.symm, ← i2]
    · have c0 : (revV l l.length).length = 0 := by omega
      unfold Bl
      rw [if_neg (by omega)]
      rw [c0] at i2 i4
      have v0 : (catK l l.length).v = 0#64 := BitVec.eq_of_getLsbD_eq fun i _ => by rw [(i4 i (Nat.zero_le _)).1]; simp
      have x0 : (catK l l.length).x = 0#64 := BitVec.eq_of_getLsbD_eq fun i _ => by rw [(i4 i (Nat.zero_le _)).2]; simp
      generalize catK l l.length = q at i2 v0 x0 ⊢
      obtain ⟨W, v, x⟩ := q
      simp only at i2 v0 x0
      subst i2 v0 x0; rfl
  · rw [cat_long l l.length h (by omega), if_neg (by simp)]
    unfold Bl
    rw [if_neg (by omega)]
theorem catV_no {l : List Rb} {j : Nat} (hj : j < l.length) (h : (l.getD j ⟨0, 0#64, 0#64⟩).okB = false) : catV l = ⟨0, 0#64, 0#64⟩ := by
  unfold catV
  rw [cat_bad hj h]; rfl
theorem revV_rep (r : Rb) (n : Nat) : ∀ k, k ≤ n → revV (List.replicate n r) k = (List.replicate k (vlR r)).flatten
  | 0 => fun _ => rfl
  | k + 1 => fun h => by
    have e : (List.replicate n r).getD k ⟨0, 0#64, 0#64⟩ = r := by
      rw [List.getD_eq_getElem?_getD, List.getElem?_replicate, if_pos (by omega)]; rfl
    show vlR ((List.replicate n r).getD k ⟨0, 0#64, 0#64⟩) ++ revV (List.replicate n r) k = _
    rw [e, revV_rep r n k (by omega), List.replicate_succ, List.flatten_cons]
theorem rep_snoc (v : List UInt8) (k : Nat) : (List.replicate (k + 1) v).flatten = (List.replicate k v).flatten ++ v := by
  rw [List.replicate_succ', List.flatten_append]; simp
/-- Rep of a valid vector, by its states -/
theorem repV_ok {r : Rb} {n : Nat} (ho : r.okB = true) (n1 : 1 ≤ n) (n2 : n ≤ 64) : Bl (List.replicate n (vlR r)).flatten = repV r n := by
  unfold repV
  rw [if_pos (by omega), Int.toNat_natCast, ← catV_ok, List.length_replicate, revV_rep r n n (Nat.le_refl n)]
  intro j hj
  rw [List.length_replicate] at hj
  rw [List.getD_eq_getElem?_getD, List.getElem?_replicate, if_pos hj]; exact ho
/-- the states of the last i parts -/
def sufV (l : List Rb) : Nat → List UInt8
  | 0 => []
  | i + 1 => sufV l i ++ vlR (l.getD (l.length - 1 - i) ⟨0, 0#64, 0#64⟩)
theorem suf_rev (l : List Rb) : ∀ i, i ≤ l.length → sufV l i ++ revV l (l.length - i) = revV l l.length
  | 0 => fun _ => rfl
  | i + 1 => fun h => by
    rw [← suf_rev l i (by omega)]
    obtain ⟨k, hk⟩ : ∃ k, l.length - i = k + 1 := ⟨l.length - i - 1, by omega⟩
    have e1 : l.length - (i + 1) = k := by omega
    have e2 : l.length - 1 - i = k := by omega
    rw [hk, e1]
    show (sufV l i ++ vlR (l.getD (l.length - 1 - i) ⟨0, 0#64, 0#64⟩)) ++ revV l k = sufV l i ++ (vlR (l.getD k ⟨0, 0#64, 0#64⟩) ++ revV l k)
    rw [e2, List.append_assoc]
theorem suf_full (l : List Rb) : sufV l l.length = revV l l.length := by
  have := suf_rev l l.length (Nat.le_refl _)
  rw [Nat.sub_self] at this
  rw [← this]; exact (List.append_nil _).symm
/-- what has grown over 64 states is no vector -/
theorem suf_long {l : List Rb} {i : Nat} (hi : i ≤ l.length) (h : 64 < (sufV l i).length) : Bl (sufV l i) = Bl (revV l l.length) := by
  have e := suf_rev l i hi
  have h2 : 64 < (revV l l.length).length := by rw [← e, List.length_append]; omega
  unfold Bl
  rw [if_neg (by omega), if_neg (by omega)]
end Go.Proofs.YtdpmojkpfnkcdaaDoor
