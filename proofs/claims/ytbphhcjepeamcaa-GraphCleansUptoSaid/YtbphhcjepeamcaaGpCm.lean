/- Clean: what becomes of the nodes, in the program's numbers and in the reference's. No condition. -/
import Derived.Test.YtbphhcjepeamcaaMgPc
import Derived.Test.YtbphhcjepeamcaaGlCz
import Derived.Test.YtbphhcjepeamcaaGpQ
namespace Go.Proofs.Ytbphhcjepeamcaa
open Go Go.RowKit Go.Sort
set_option linter.unusedVariables false
/-- how many of the first ones are kept, from place n on -/
def cnt (n : Nat) : Nat → List Bool → Nat → Nat
  | _, _, 0 => 0
  | _, [], _ + 1 => 0
  | i, b :: t, m + 1 => (if ¬ i < n ∧ b = true then 1 else 0) + cnt n (i + 1) t m
theorem cnt_succ (n : Nat) : ∀ (t : List Bool) (i m : Nat), m < t.length → cnt n i t (m + 1) = cnt n i t m + (if ¬ i + m < n ∧ t[m]! = true then 1 else 0)
  | [], _, _, h => by simp at h
  | b :: t, i, 0, _ => by simp [cnt]
  | b :: t, i, m + 1, h => by
    have := cnt_succ n t (i + 1) m (by simpa using h)
    show (if ¬ i < n ∧ b = true then 1 else 0) + cnt n (i + 1) t (m + 1) = (if ¬ i < n ∧ b = true then 1 else 0) + cnt n (i + 1) t m + _
    rw [this, show i + (m + 1) = i + 1 + m by omega]
    simp
    omega
theorem cnt_low (n : Nat) (t : List Bool) : ∀ m, m ≤ n → m ≤ t.length → cnt n 0 t m = 0
  | 0, _, _ => by unfold cnt; rfl
  | m + 1, h, h2 => by rw [cnt_succ n t 0 m (by omega), cnt_low n t m (by omega) (by omega), if_neg (fun h3 => h3.1 (by omega))]
theorem plL_get (n : Nat) : ∀ (t : List Bool) (i : Nat) (x : Int) (m : Nat), m < t.length → (plL n i x t)[m]! = if i + m < n then ((i + m : Nat) : Int) else if t[m]! = true then x + (cnt n i t m : Int) else -1
  | [], _, _, _, h => by simp at h
  | b :: t, i, x, 0, _ => by
    unfold plL
    simp only [Nat.add_zero]
    by_cases h : i < n
    · rw [if_pos h, if_pos h]; simp
    · rw [if_neg h, if_neg h]
      cases b <;> simp [cnt]
  | b :: t, i, x, m + 1, h => by
    have h2 : m < t.length := by simpa using h
    unfold plL
    rw [show i + (m + 1) = i + 1 + m by omega]
    have e : (b :: t)[m + 1]! = t[m]! := by simp
    rw [e]
    by_cases hi : i < n
    · have ec : cnt n i (b :: t) (m + 1) = cnt n (i + 1) t m := by
        show (if ¬ i < n ∧ b = true then 1 else 0) + cnt n (i + 1) t m = _
        rw [if_neg (fun h3 : ¬ i < n ∧ b = true => h3.1 hi), Nat.zero_add]
      rw [ec, if_pos hi]
      simp only [List.getElem!_cons_succ]
      exact plL_get n t (i + 1) x m h2
    · rw [if_neg hi]
      cases b with
      | true =>
        have ec : cnt n i (true :: t) (m + 1) = 1 + cnt n (i + 1) t m := by
          show (if ¬ i < n ∧ true = true then 1 else 0) + cnt n (i + 1) t m = _
          rw [if_pos (⟨hi, rfl⟩ : ¬ i < n ∧ true = true)]
        have ih := plL_get n t (i + 1) (x + 1) m h2
        rw [ec, if_pos rfl]
        simp only [List.getElem!_cons_succ]
        rw [ih]
        split
        · rfl
        · split
          · push_cast; omega
          · rfl
      | false =>
        have ec : cnt n i (false :: t) (m + 1) = cnt n (i + 1) t m := by
          show (if ¬ i < n ∧ false = true then 1 else 0) + cnt n (i + 1) t m = _
          rw [if_neg (fun h3 : ¬ i < n ∧ false = true => by cases h3.2), Nat.zero_add]
        rw [ec, if_neg (by decide)]
        simp only [List.getElem!_cons_succ]
        exact plL_get n t (i + 1) x m h2
theorem kL_succ (g : Gr) (K : List Bool) (P : List Int) (j : Nat) : kL g K P (j + 1) = if K[n0L g + j]! = true then kL g K P j ++ [(atL P g.ands[j]!.1, atL P g.ands[j]!.2)] else kL g K P j := rfl
section
variable {g : Gr} {K : List Bool}
theorem pl_low (hK : K.length = n0L g + g.ands.length) {i : Nat} (hi : i < n0L g) : (plG g K)[i]! = (i : Int) := by
  unfold plG
  rw [plL_get _ _ _ _ _ (by omega), if_pos (by omega)]
  simp
theorem kL_cnt (hK : K.length = n0L g + g.ands.length) (P : List Int) : ∀ j, j ≤ g.ands.length → (kL g K P j).length = cnt (n0L g) 0 K (n0L g + j)
  | 0, _ => by rw [Nat.add_zero, cnt_low _ _ _ (Nat.le_refl _) (by omega)]; rfl
  | j + 1, h => by
    have ih := kL_cnt hK P j (by omega)
    rw [← Nat.add_assoc, cnt_succ _ _ _ _ (by omega), ← ih]
    rw [kL_succ]
    by_cases hk : K[n0L g + j]! = true
    · rw [if_pos hk, if_pos ⟨by omega, hk⟩, List.length_append]; rfl
    · rw [if_neg hk, if_neg (fun h2 => hk h2.2)]; rfl
theorem pl_and (hK : K.length = n0L g + g.ands.length) (P : List Int) {j : Nat} (hj : j < g.ands.length) : (plG g K)[n0L g + j]! = if K[n0L g + j]! = true then (n0L g : Int) + ((kL g K P j).length : Int) else -1 := by
  unfold plG
  rw [plL_get _ _ _ _ _ (by omega), if_neg (by omega), kL_cnt hK P j (by omega)]
/-- what the nodes became, as literals -/
def bcL (g : Gr) (K : List Bool) : Nat → List Int
  | 0 => keptL (n0L g)
  | j + 1 => bcL g K j ++ [if K[n0L g + j]! = true then 2 * ((n0L g : Int) + ((kL g K (plG g K) j).length : Int)) else -1]
theorem keptL_len (n : Nat) : (keptL n).length = n := by simp [keptL]
theorem keptL_get (n i : Nat) (h : i < n) : (keptL n)[i]! = 2 * (i : Int) := by
  unfold keptL
  rw [getElem!_pos _ i (by simpa using h)]
  simp
theorem bc_len (g : Gr) (K : List Bool) : ∀ j, (bcL g K j).length = n0L g + j
  | 0 => keptL_len _
  | j + 1 => by unfold bcL; rw [List.length_append, bc_len g K j]; rfl
theorem get_app {α : Type} [Inhabited α] (A : List α) (x : α) (i : Nat) : (A ++ [x])[i]! = if i < A.length then A[i]! else if i = A.length then x else default := by
  by_cases h : i < A.length
  · rw [if_pos h, getElem!_pos _ i (by simp; omega), getElem!_pos A i h, List.getElem_append_left h]
  · rw [if_neg h]
    by_cases e : i = A.length
    · subst e
      rw [if_pos rfl, getElem!_pos _ _ (by simp)]; simp
    · rw [if_neg e, getElem!_neg _ _ (by simp; omega)]
theorem bc_get (hK : K.length = n0L g + g.ands.length) : ∀ j, j ≤ g.ands.length → ∀ i, i < n0L g + j → (bcL g K j)[i]! = if 0 ≤ (plG g K)[i]! then 2 * (plG g K)[i]! else -1
  | 0, _, i, hi => by
    show (keptL _)[i]! = _
    rw [keptL_get _ _ (by omega), pl_low hK (by omega), if_pos (by omega)]
  | j + 1, h, i, hi => by
    unfold bcL
    rw [get_app, bc_len]
    by_cases hlt : i < n0L g + j
    · rw [if_pos hlt]; exact bc_get hK j (by omega) i hlt
    · have e : i = n0L g + j := by omega
      subst e
      rw [if_neg hlt, if_pos rfl, pl_and hK (plG g K) (by omega)]
      by_cases hk : K[n0L g + j]! = true
      · rw [if_pos hk, if_pos hk, if_pos (by omega)]
      · rw [if_neg hk, if_neg hk, if_neg (by omega)]
theorem pl_kept (hK : K.length = n0L g + g.ands.length) {i : Nat} (hi : i < n0L g + g.ands.length) (hk : K[i]! = true ∨ i < n0L g) : 0 ≤ (plG g K)[i]! ∧ (plG g K)[i]! ≤ (i : Int) := by
  by_cases hl : i < n0L g
  · rw [pl_low hK hl]; omega
  · have hk2 : K[i]! = true := hk.resolve_right hl
    obtain ⟨j, rfl⟩ : ∃ j, i = n0L g + j := ⟨i - n0L g, by omega⟩
    rw [pl_and hK (plG g K) (by omega), if_pos hk2]
    have := kL_len g K (plG g K) j
    omega
/-- literals of nodes that are kept become the same -/
theorem fl_at (hK : K.length = n0L g + g.ands.length) (hs : n0L g + g.ands.length ≤ 100000) {J : Nat} (hJ : J ≤ g.ands.length) {l : Int} (h0 : 0 ≤ l) (hl : ndL l < n0L g + J) (hk : K[ndL l]! = true ∨ ndL l < n0L g) : flL (bcL g K J) l = atL (plG g K) l := by
  have hp := pl_kept hK (i := ndL l) (by omega) hk
  unfold flL atL
  rw [bc_get hK J hJ _ hl, if_pos hp.1]
  by_cases h : l % 2 = 1
  · rw [if_pos h, notL_even _ hp.1 (by omega), h]
  · rw [if_neg h]; omega
theorem bc_nodes (hK : K.length = n0L g + g.ands.length) : (bcL g K g.ands.length).map nodeL = plG g K := by
  apply List.ext_getElem
  · rw [List.length_map, bc_len, plG, plL_len, hK]
  · intro i h1 h2
    rw [List.length_map, bc_len] at h1
    have e1 := bc_get hK g.ands.length (Nat.le_refl _) i h1
    rw [getElem!_pos _ i (by rw [bc_len]; exact h1)] at e1
    rw [List.getElem_map, e1]
    rw [getElem!_pos (plG g K) i h2]
    have hlo : -1 ≤ (plG g K)[i] := by
      have := plL_in (n0L g) K 0 (n0L g) (by omega) (plG g K)[i] (List.getElem_mem h2)
      exact this.1
    unfold nodeL
    by_cases h : 0 ≤ (plG g K)[i]
    · rw [if_pos h, if_pos (by omega)]; omega
    · rw [if_neg h, if_neg (by decide)]; omega
end
theorem kp_len (g : Gr) : (kpG g).length = n0L g + g.ands.length := belowG_len g _
theorem goals_in {g : Gr} (vg : VG g) : ∀ l ∈ goalsL g, ndL l < n0L g + g.ands.length := fun l hl => by
  have h := goal_lit vg l hl
  have h2 := h.2
  rw [allL_eq] at h2
  have := ndL_lt h.1 (n := ((n0L g + g.ands.length : Nat) : Int)) (by unfold n0L; omega)
  omega
/-- the ands of an and that is kept -/
theorem kp_and {g : Gr} (vg : VG g) {j : Nat} (hj : j < g.ands.length) (hk : (kpG g)[n0L g + j]! = true) : (kpG g)[ndL g.ands[j]!.1]! = true ∧ (kpG g)[ndL g.ands[j]!.2]! = true :=
  below_closed g vg _ (goals_in vg) j hj hk
theorem kp_root {g : Gr} (vg : VG g) : ∀ l ∈ goalsL g, (kpG g)[ndL l]! = true := below_roots g vg _ (goals_in vg)
theorem re_ren {g : Gr} (vg : VG g) : reG g (kL g (kpG g) (plG g (kpG g)) g.ands.length) (bcL g (kpG g) g.ands.length) = renG g (kpG g) := by
  have n1 := vg.ins
  have n2 := vg.regs
  have n3 := vg.ands
  unfold reG renG
  have e1 : g.regs.map (flR (bcL g (kpG g) g.ands.length)) = g.regs.map (atR (plG g (kpG g))) := List.map_congr_left fun r hr => by
    have hm : r.nx ∈ goalsL g := List.mem_append_right _ (List.mem_map.2 ⟨r, hr, rfl⟩)
    unfold flR atR
    rw [fl_at (kp_len g) (by unfold n0L; omega) (Nat.le_refl _) (vg.next r hr).1 (goals_in vg _ hm) (.inl (kp_root vg _ hm))]
  have e2 : g.outs.map (flL (bcL g (kpG g) g.ands.length)) = g.outs.map (atL (plG g (kpG g))) := List.map_congr_left fun l hl => by
    have hm : l ∈ goalsL g := List.mem_append_left _ hl
    exact fl_at (kp_len g) (by unfold n0L; omega) (Nat.le_refl _) (vg.out l hl).1 (goals_in vg _ hm) (.inl (kp_root vg _ hm))
  rw [e1, e2]
end Go.Proofs.Ytbphhcjepeamcaa
