/- The closure is the least set that holds the roots and what its ands need: no program. -/
import Derived.Test.YtbphhcjepeamcaaGrBl
import Derived.Test.YtbphhcjepeamcaaGrVa
namespace Go.Proofs.Ytbphhcjepeamcaa
open Go Go.RowKit Go.Sort
set_option linter.unusedVariables false
/-- a set of nodes with each and has what it needs -/
def ClosedN (g : Gr) (N : Nat → Prop) : Prop := ∀ j, j < g.ands.length → N (n0L g + j) → N (ndL g.ands[j]!.1) ∧ N (ndL g.ands[j]!.2)
theorem mark_mono (g : Gr) : ∀ (f : Nat) (M : List Bool) (l : Int) (i : Nat), M[i]! = true → (markL g f M l)[i]! = true
  | 0, M, l, i, h => h
  | f + 1, M, l, i, h => by
    have h1 : (M.set (ndL l) true)[i]! = true := by
      by_cases hl : ndL l < M.length
      · rw [at_set M _ i true hl]; split <;> first | rfl | exact h
      · rw [List.set_eq_of_length_le (by omega)]; exact h
    rw [markL_step]
    split
    · exact h
    · split
      · exact mark_mono g f _ _ i (mark_mono g f _ _ i h1)
      · exact h1
theorem mark_self (g : Gr) (f : Nat) (M : List Bool) (l : Int) (hl : ndL l < M.length) : (markL g (f + 1) M l)[ndL l]! = true := by
  have h1 : (M.set (ndL l) true)[ndL l]! = true := by rw [at_set M _ _ true hl, if_pos rfl]
  rw [markL_step]
  split
  · assumption
  · split
    · exact mark_mono g f _ _ _ (mark_mono g f _ _ _ h1)
    · exact h1
/-- what is new has what it needs -/
def NewOk (g : Gr) (M E : List Bool) : Prop := ∀ j, j < g.ands.length → E[n0L g + j]! = true → M[n0L g + j]! = true ∨ (E[ndL g.ands[j]!.1]! = true ∧ E[ndL g.ands[j]!.2]! = true)
theorem mark_new (g : Gr) (vg : VG g) : ∀ (f : Nat) (M : List Bool) (l : Int), ndL l < f → M.length = n0L g + g.ands.length → ndL l < M.length → NewOk g M (markL g f M l)
  | 0, M, l, h, _, _ => by omega
  | f + 1, M, l, h, hM, hl => by
    have hset : ∀ i, (M.set (ndL l) true)[i]! = if ndL l = i then true else M[i]! := fun i => at_set M _ i true hl
    intro j hj he
    rw [markL_step] at he ⊢
    split at he
    · exact .inl he
    rename_i hm
    rw [if_neg hm]
    split at he
    · rename_i hg
      rw [if_pos hg]
      have hb : baseL g = 2 * (n0L g : Int) := by unfold baseL n0L; omega
      have hlit := vg.lits (ndL l - n0L g) (by omega)
      have l1 : ndL g.ands[ndL l - n0L g]!.1 < ndL l := by have := ndL_lt (n := (ndL l : Int)) hlit.1.1 (by omega); omega
      have l2 : ndL g.ands[ndL l - n0L g]!.2 < ndL l := by have := ndL_lt (n := (ndL l : Int)) hlit.2.1 (by omega); omega
      have hM1 : (M.set (ndL l) true).length = n0L g + g.ands.length := by rw [List.length_set]; exact hM
      have s1 := mark_new g vg f (M.set (ndL l) true) g.ands[ndL l - n0L g]!.1 (by omega) hM1 (by omega)
      have hM2 : (markL g f (M.set (ndL l) true) g.ands[ndL l - n0L g]!.1).length = n0L g + g.ands.length := by rw [markL_len]; exact hM1
      have s2 := mark_new g vg f _ g.ands[ndL l - n0L g]!.2 (by omega) hM2 (by omega)
      obtain ⟨f', rfl⟩ : ∃ f', f = f' + 1 := ⟨f - 1, by omega⟩
      have t1 := mark_self g f' (M.set (ndL l) true) g.ands[ndL l - n0L g]!.1 (by omega)
      have t2 := mark_self g f' (markL g (f' + 1) (M.set (ndL l) true) g.ands[ndL l - n0L g]!.1) g.ands[ndL l - n0L g]!.2 (by omega)
      rcases s2 j hj he with h2 | h2
      · rcases s1 j hj h2 with h1 | h1
        · rw [hset] at h1
          by_cases hji : ndL l = n0L g + j
          · right
            have : ndL l - n0L g = j := by omega
            rw [this] at t1 t2 ⊢
            exact ⟨mark_mono g _ _ _ _ t1, t2⟩
          · rw [if_neg hji] at h1; exact .inl h1
        · exact .inr ⟨mark_mono g _ _ _ _ h1.1, mark_mono g _ _ _ _ h1.2⟩
      · exact .inr h2
    · rename_i hg
      rw [hset, if_neg (by omega)] at he
      exact .inl he
theorem mark_least (g : Gr) (vg : VG g) (N : Nat → Prop) (hN : ClosedN g N) : ∀ (f : Nat) (M : List Bool) (l : Int), M.length = n0L g + g.ands.length → ndL l < M.length → N (ndL l) → (∀ i, M[i]! = true → N i) → ∀ i, (markL g f M l)[i]! = true → N i
  | 0, M, l, _, _, _, h, i, hi => h i hi
  | f + 1, M, l, hM, hl, hNl, h, i, hi => by
    have hset : ∀ i, (M.set (ndL l) true)[i]! = true → N i := fun i hi => by
      rw [at_set M _ i true hl] at hi
      split at hi
      · rename_i e; subst e; exact hNl
      · exact h i hi
    rw [markL_step] at hi
    split at hi
    · exact h i hi
    split at hi
    · rename_i hg
      have hb : baseL g = 2 * (n0L g : Int) := by unfold baseL n0L; omega
      have hlit := vg.lits (ndL l - n0L g) (by omega)
      have l1 : ndL g.ands[ndL l - n0L g]!.1 < ndL l := by have := ndL_lt (n := (ndL l : Int)) hlit.1.1 (by omega); omega
      have l2 : ndL g.ands[ndL l - n0L g]!.2 < ndL l := by have := ndL_lt (n := (ndL l : Int)) hlit.2.1 (by omega); omega
      have hc := hN (ndL l - n0L g) (by omega) (by rw [show n0L g + (ndL l - n0L g) = ndL l by omega]; exact hNl)
      have hM1 : (M.set (ndL l) true).length = n0L g + g.ands.length := by rw [List.length_set]; exact hM
      have hM2 : (markL g f (M.set (ndL l) true) g.ands[ndL l - n0L g]!.1).length = n0L g + g.ands.length := by rw [markL_len]; exact hM1
      exact mark_least g vg N hN f _ _ hM2 (by omega) hc.2 (mark_least g vg N hN f _ _ hM1 (by omega) hc.1 hset) i hi
    · exact hset i hi
theorem belows_mono (g : Gr) : ∀ (rs : List Int) (M : List Bool) (i : Nat), M[i]! = true → (rs.foldl (belowL g) M)[i]! = true
  | [], M, i, h => h
  | r :: rs, M, i, h => belows_mono g rs _ i (mark_mono g _ _ _ i h)
theorem belows_all (g : Gr) (vg : VG g) (M0 : List Bool) : ∀ (rs : List Int) (M : List Bool), M.length = n0L g + g.ands.length → (∀ l ∈ rs, ndL l < n0L g + g.ands.length) → NewOk g M0 M → (NewOk g M0 (rs.foldl (belowL g) M) ∧ ∀ l ∈ rs, (rs.foldl (belowL g) M)[ndL l]! = true)
  | [], M, _, _, h => ⟨h, fun l hl => by cases hl⟩
  | r :: rs, M, hM, hl, h => by
    have hr := hl r (by simp)
    have hn := mark_new g vg (n0L g + g.ands.length) M r hr hM (by omega)
    have h1 : NewOk g M0 (belowL g M r) := fun j hj he => by
      rcases hn j hj he with h2 | h2
      · rcases h j hj h2 with h3 | h3
        · exact .inl h3
        · exact .inr ⟨mark_mono g _ _ _ _ h3.1, mark_mono g _ _ _ _ h3.2⟩
      · exact .inr h2
    obtain ⟨s1, s2⟩ := belows_all g vg M0 rs (belowL g M r) (by rw [belowL_len]; exact hM) (fun l hl' => hl l (by simp [hl'])) h1
    refine ⟨s1, fun l hl' => ?_⟩
    rcases List.mem_cons.1 hl' with rfl | h2
    · refine belows_mono g rs _ _ ?_
      unfold belowL
      obtain ⟨f', hf⟩ : ∃ f', n0L g + g.ands.length = f' + 1 := ⟨n0L g + g.ands.length - 1, by omega⟩
      rw [hf]
      exact mark_self g f' M l (by omega)
    · exact s2 l h2
theorem belows_least (g : Gr) (vg : VG g) (N : Nat → Prop) (hN : ClosedN g N) : ∀ (rs : List Int) (M : List Bool), M.length = n0L g + g.ands.length → (∀ l ∈ rs, ndL l < n0L g + g.ands.length ∧ N (ndL l)) → (∀ i, M[i]! = true → N i) → ∀ i, (rs.foldl (belowL g) M)[i]! = true → N i
  | [], M, _, _, h, i, hi => h i hi
  | r :: rs, M, hM, hl, h, i, hi => by
    have hr := hl r (by simp)
    exact belows_least g vg N hN rs (belowL g M r) (by rw [belowL_len]; exact hM) (fun l hl' => hl l (by simp [hl'])) (mark_least g vg N hN _ M r hM (by omega) hr.2 h) i hi
theorem none_yet (n i : Nat) : ¬ (List.replicate n false)[i]! = true := by
  by_cases h : i < n
  · rw [getElem!_pos _ i (by simpa using h), List.getElem_replicate]; simp
  · rw [getElem!_neg _ i (by simpa using h)]; decide
/-- Below: the least closed set that holds the roots -/
theorem below_roots (g : Gr) (vg : VG g) (rs : List Int) (h : ∀ l ∈ rs, ndL l < n0L g + g.ands.length) : ∀ l ∈ rs, (belowG g rs)[ndL l]! = true :=
  (belows_all g vg (List.replicate (n0L g + g.ands.length) false) rs _ (by simp) h (fun j _ he => .inl he)).2
theorem below_closed (g : Gr) (vg : VG g) (rs : List Int) (h : ∀ l ∈ rs, ndL l < n0L g + g.ands.length) : ClosedN g (fun i => (belowG g rs)[i]! = true) := fun j hj he => by
  rcases (belows_all g vg (List.replicate (n0L g + g.ands.length) false) rs _ (by simp) h (fun j _ he => .inl he)).1 j hj he with h1 | h1
  · exact absurd h1 (none_yet _ _)
  · exact h1
theorem below_least (g : Gr) (vg : VG g) (rs : List Int) (h : ∀ l ∈ rs, ndL l < n0L g + g.ands.length) (N : Nat → Prop) (hN : ClosedN g N) (hr : ∀ l ∈ rs, N (ndL l)) (i : Nat) (hi : (belowG g rs)[i]! = true) : N i :=
  belows_least g vg N hN rs _ (by simp) (fun l hl => ⟨h l hl, hr l hl⟩) (fun i hi => absurd hi (none_yet _ _)) i hi
theorem belowG_len (g : Gr) (rs : List Int) : (belowG g rs).length = n0L g + g.ands.length := by unfold belowG; rw [belows_len]; simp
end Go.Proofs.Ytbphhcjepeamcaa
