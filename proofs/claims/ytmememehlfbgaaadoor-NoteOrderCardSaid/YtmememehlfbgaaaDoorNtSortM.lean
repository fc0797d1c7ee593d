/- What note.Sort hands back: increasing, and the list's messages alone. No program here. -/
import Derived.Test.YtmememehlfbgaaaDoorNtSortC
namespace Go.Proofs.YtmememehlfbgaaaDoor
open Go Go.Sort Go.Lib
set_option linter.unusedVariables false
theorem leN_tr (x y z : Nt) (h : (!(ltN y x)) = true) (k : (!(ltN z y)) = true) : (!(ltN z x)) = true := by
  rw [Bool.not_eq_true'] at *
  exact ltN_swo.ntrans z y x k h
theorem leN_total (x y : Nt) : ((!(ltN y x)) || (!(ltN x y))) = true := by
  cases h : ltN y x with
  | false => rfl
  | true => rw [ltN_asym h]; rfl
theorem sortL_sorted (L : List Nt) : (sortL L).Pairwise fun x y => (!(ltN y x)) = true :=
  List.pairwise_mergeSort leN_tr leN_total L
theorem mem_sortL (L : List Nt) (x : Nt) : x ∈ sortL L ↔ x ∈ L := List.mem_mergeSort
theorem sortL_get (L : List Nt) {i j : Nat} (hij : i < j) (hj : j < (sortL L).length) : ltN (sortL L).toArray[j]! (sortL L).toArray[i]! = false := by
  have := (List.pairwise_iff_getElem.1 (sortL_sorted L)) i j (by omega) hj hij
  have e1 : (sortL L).toArray[i]! = (sortL L)[i]'(by omega) := by simp [getElem!_pos, show i < (sortL L).length by omega]
  have e2 : (sortL L).toArray[j]! = (sortL L)[j]'hj := by simp [getElem!_pos, hj]
  rw [e1, e2]; simpa using this
theorem keeps_first (d : Array Nt) (x : Nt) : ∀ j, j < d.size → d[j]! = x → ∃ i, i ≤ j ∧ d[i]! = x ∧ keeps d i = true
  | 0, _, h => ⟨0, Nat.le_refl _, h, by simp [keeps]⟩
  | j + 1, hj, h => by
    by_cases e : d[j]! = x
    · obtain ⟨i, h1, h2, h3⟩ := keeps_first d x j (by omega) e
      exact ⟨i, by omega, h2, h3⟩
    · exact ⟨j + 1, Nat.le_refl _, h, keeps_pos (by rw [h]; exact fun h' => e h'.symm)⟩
theorem mem_kept (L : List Nt) (x : Nt) : x ∈ kept L ↔ x ∈ L := by
  rw [← mem_sortL L x]
  unfold kept compactUpTo
  rw [List.mem_map]
  constructor
  · rintro ⟨j, hj, rfl⟩
    have := List.mem_range.1 (List.mem_filter.1 hj).1
    rw [show (sortL L).toArray[j]! = (sortL L)[j]'this by simp [getElem!_pos, this]]
    exact List.getElem_mem _
  · intro hx
    obtain ⟨j, hj, rfl⟩ := List.mem_iff_getElem.1 hx
    obtain ⟨i, h1, h2, h3⟩ := keeps_first (sortL L).toArray ((sortL L)[j]'hj) j (by simpa using hj) (by simp [getElem!_pos, hj])
    exact ⟨i, List.mem_filter.2 ⟨List.mem_range.2 (by omega), h3⟩, h2⟩
theorem kept_inc (L : List Nt) : (kept L).Pairwise fun x y => ltN x y = true := by
  unfold kept compactUpTo
  rw [List.pairwise_map]
  have h0 : ((List.range (sortL L).length).filter (keeps (sortL L).toArray)).Pairwise (· < ·) := List.pairwise_lt_range.filter _
  refine h0.imp_of_mem fun {i j} hi hj hij => ?_
  have hjl := List.mem_range.1 (List.mem_filter.1 hj).1
  have hk := (List.mem_filter.1 hj).2
  have hne : (sortL L).toArray[j]! ≠ (sortL L).toArray[j - 1]! := by
    intro e
    rw [keeps_neg (by omega) e] at hk; cases hk
  have h1 := sortL_get L hij hjl
  have h2 := sortL_get L (show j - 1 < j by omega) hjl
  cases h3 : ltN (sortL L).toArray[i]! (sortL L).toArray[j]! with
  | true => rfl
  | false =>
    exfalso
    have e := ltN_total h3 h1
    rcases Nat.lt_or_ge i (j - 1) with h4 | h4
    · have h5 := sortL_get L h4 (by omega)
      rw [e] at h5
      exact hne (ltN_total h2 h5)
    · rw [show j - 1 = i by omega] at hne
      exact hne e.symm
theorem kept_get (L : List Nt) {i j : Nat} (hij : i < j) (hj : j < (kept L).length) : ltN (kept L)[i]! (kept L)[j]! = true := by
  have := (List.pairwise_iff_getElem.1 (kept_inc L)) i j (by omega) hj hij
  rw [getElem!_pos (kept L) i (by omega), getElem!_pos (kept L) j hj]; exact this
/-- the next message that is kept: the least of the list behind the last one -/
theorem kept_next (L : List Nt) (m b : Nat) (hb : b < L.length) (hm : m ≤ (kept L).length) (hl : m = 0 ∨ ltN (kept L)[m - 1]! L[b]! = true)
    (hmin : ∀ j, j < L.length → (m = 0 ∨ ltN (kept L)[m - 1]! L[j]! = true) → ltN L[j]! L[b]! = false) : m < (kept L).length ∧ (kept L)[m]! = L[b]! := by
  have hx : L[b]! ∈ kept L := (mem_kept L _).2 (by rw [getElem!_pos L b hb]; exact List.getElem_mem _)
  obtain ⟨p, hp, e⟩ := List.mem_iff_getElem.1 hx
  have e' : (kept L)[p]! = L[b]! := by rw [getElem!_pos (kept L) p hp]; exact e
  have hpm : m ≤ p := by
    rcases Nat.lt_or_ge p m with h | h
    · exfalso
      rcases hl with h0 | h0
      · omega
      · rw [← e'] at h0
        rcases Nat.lt_or_ge p (m - 1) with h2 | h2
        · have := kept_get L h2 (by omega)
          rw [ltN_asym this] at h0; cases h0
        · rw [show m - 1 = p by omega, ltN_self] at h0; cases h0
    · exact h
  have hml : m < (kept L).length := by omega
  refine ⟨hml, ?_⟩
  have hy : (kept L)[m]! ∈ L := (mem_kept L _).1 (by rw [getElem!_pos (kept L) m hml]; exact List.getElem_mem _)
  obtain ⟨q, hq, eq⟩ := List.mem_iff_getElem.1 hy
  have eq' : L[q]! = (kept L)[m]! := by rw [getElem!_pos L q hq]; exact eq
  have h1 := hmin q hq (by
    rcases Nat.eq_zero_or_pos m with h | h
    · exact .inl h
    · right; rw [eq']; exact kept_get L (by omega) hml)
  rw [eq', ← e'] at h1
  rcases Nat.lt_or_ge m p with h | h
  · rw [kept_get L h hp] at h1; cases h1
  · rw [show m = p by omega]; exact e'
/-- no message behind the last one: all are kept -/
theorem kept_end (L : List Nt) (m : Nat) (hm : m ≤ (kept L).length) (hno : ∀ j, j < L.length → ¬ (m = 0 ∨ ltN (kept L)[m - 1]! L[j]! = true)) : m = (kept L).length := by
  rcases Nat.lt_or_ge m (kept L).length with h | h
  · exfalso
    have hy : (kept L)[m]! ∈ L := (mem_kept L _).1 (by rw [getElem!_pos (kept L) m h]; exact List.getElem_mem _)
    obtain ⟨q, hq, eq⟩ := List.mem_iff_getElem.1 hy
    have eq' : L[q]! = (kept L)[m]! := by rw [getElem!_pos L q hq]; exact eq
    refine hno q hq ?_
    rcases Nat.eq_zero_or_pos m with h0 | h0
    · exact .inl h0
    · right; rw [eq']; exact kept_get L (by omega) h
  · omega
end Go.Proofs.YtmememehlfbgaaaDoor
