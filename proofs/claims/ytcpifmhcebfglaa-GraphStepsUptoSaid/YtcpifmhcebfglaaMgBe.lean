/- The nodes that literals of a valid graph need: the reference's closure.
   The values of the nodes of a valid graph: no program. -/
import Derived.Test.YtcpifmhcebfglaaGrAr
import Derived.StillTailTactics
namespace Go.Proofs.Ytcpifmhcebfglaa
open Go Go.RowKit Go.Sort
set_option linter.unusedVariables false
def n0L (g : Gr) : Nat := 1 + g.ins.length + g.regs.length
/-- a literal is marked, with all that it needs -/
def markL (g : Gr) : Nat → List Bool → Int → List Bool
  | 0, M, _ => M
  | f + 1, M, l => if M[ndL l]! = true then M else if n0L g ≤ ndL l then markL g f (markL g f (M.set (ndL l) true) g.ands[ndL l - n0L g]!.1) g.ands[ndL l - n0L g]!.2 else M.set (ndL l) true
theorem markL_step (g : Gr) (f : Nat) (M : List Bool) (l : Int) : markL g (f + 1) M l = if M[ndL l]! = true then M else if n0L g ≤ ndL l then markL g f (markL g f (M.set (ndL l) true) g.ands[ndL l - n0L g]!.1) g.ands[ndL l - n0L g]!.2 else M.set (ndL l) true := rfl
theorem markL_len (g : Gr) : ∀ f M l, (markL g f M l).length = M.length
  | 0, _, _ => rfl
  | f + 1, M, l => by
    rw [markL_step]
    split
    · rfl
    · split
      · rw [markL_len g f, markL_len g f]; simp
      · simp
/-- the blocks are apart -/
structure BA (k t5 t6 t7 q : Nat) (w0 : World) : Prop where
  k : k ≠ q
  n : t5 ≠ q
  o : t6 ≠ q
  f : t7 ≠ q
  low : w0.heap.size ≤ q
end Go.Proofs.Ytcpifmhcebfglaa
namespace Go.Proofs.Ytcpifmhcebfglaa
open Go Go.RowKit Go.Sort
set_option linter.unusedVariables false
/-- the value of a literal -/
def litV (V : List Bool) (l : Int) : Bool := V[ndL l]! != decide (l % 2 = 1)
def vAdd (V : List Bool) (p : Int × Int) : List Bool := V ++ [litV V p.1 && litV V p.2]
/-- the values of all nodes, from those of the constant, the inputs and the registers -/
def valsG (g : Gr) (x : List Bool) : List Bool := g.ands.foldl vAdd x
theorem vAdd_len (V : List Bool) (p : Int × Int) : (vAdd V p).length = V.length + 1 := by unfold vAdd; simp
theorem vAdd_lt (V : List Bool) (p : Int × Int) (i : Nat) (h : i < V.length) : (vAdd V p)[i]! = V[i]! := by
  rw [getElem!_pos _ i (by rw [vAdd_len]; omega), getElem!_pos V i h]
  unfold vAdd
  exact List.getElem_append_left h
theorem vAdd_at (V : List Bool) (p : Int × Int) (i : Nat) (h : V.length = i) : (vAdd V p)[i]! = (litV V p.1 && litV V p.2) := by
  rw [getElem!_pos _ i (by rw [vAdd_len]; omega)]
  subst h
  unfold vAdd
  simp
theorem vals_len : ∀ (l : List (Int × Int)) (V : List Bool), (l.foldl vAdd V).length = V.length + l.length
  | [], V => rfl
  | p :: l, V => by rw [List.foldl_cons, vals_len l, vAdd_len, List.length_cons]; omega
theorem vals_pre : ∀ (l : List (Int × Int)) (V : List Bool) (i : Nat), i < V.length → (l.foldl vAdd V)[i]! = V[i]!
  | [], V, i, _ => rfl
  | p :: l, V, i, h => by rw [List.foldl_cons, vals_pre l (vAdd V p) i (by rw [vAdd_len]; omega), vAdd_lt V p i h]
theorem valsG_len (g : Gr) (x : List Bool) (hx : x.length = n0L g) : (valsG g x).length = n0L g + g.ands.length := by unfold valsG; rw [vals_len, hx]
theorem valsG_pre (g : Gr) (x : List Bool) (i : Nat) (h : i < x.length) : (valsG g x)[i]! = x[i]! := vals_pre _ _ _ h
theorem litV_eq {V W : List Bool} {l : Int} (h : V[ndL l]! = W[ndL l]!) : litV V l = litV W l := by unfold litV; rw [h]
theorem vals_at (g : Gr) (vg : VG g) (x : List Bool) (hx : x.length = n0L g) (j : Nat) (hj : j < g.ands.length) : (valsG g x)[n0L g + j]! = (litV (valsG g x) g.ands[j]!.1 && litV (valsG g x) g.ands[j]!.2) := by
  have e : valsG g x = (g.ands.drop (j + 1)).foldl vAdd (vAdd ((g.ands.take j).foldl vAdd x) g.ands[j]!) := by
    unfold valsG
    conv => lhs; rw [← List.take_append_drop (j + 1) g.ands, List.foldl_append, tk1 g.ands hj, List.foldl_append]
    rfl
  have hl : ((g.ands.take j).foldl vAdd x).length = n0L g + j := by rw [vals_len, hx, List.length_take]; omega
  have hb : baseL g = 2 * (n0L g : Int) := by unfold baseL n0L; omega
  have hlit := vg.lits j hj
  generalize (g.ands.take j).foldl vAdd x = V at e hl
  have low : ∀ l : Int, 0 ≤ l → l < baseL g + 2 * j → litV V l = litV (valsG g x) l := fun l h0 h1 => by
    have hn : ndL l < n0L g + j := by unfold ndL; omega
    refine litV_eq ?_
    rw [e, vals_pre _ _ _ (by rw [vAdd_len]; omega), vAdd_lt _ _ _ (by omega)]
  rw [← low _ hlit.1.1 hlit.1.2, ← low _ hlit.2.1 hlit.2.2, e, vals_pre _ _ _ (by rw [vAdd_len]; omega), vAdd_at _ _ _ hl]
/-- what a sheet knows of the nodes below m -/
def Knows (V : List Bool) (D : List Int) (m : Nat) : Prop := ∀ i, i < m → D[i]! = 0 ∨ D[i]! = if V[i]! = true then 2 else 1
theorem at_set {α : Type} [Inhabited α] (D : List α) (i j : Nat) (x : α) (h : i < D.length) : (D.set i x)[j]! = if i = j then x else D[j]! := by
  by_cases hj : j < D.length
  · rw [getElem!_pos _ j (by simp; omega), List.getElem_set, getElem!_pos D j hj]
  · rw [getElem!_neg _ j (by simp; omega), if_neg (by omega), getElem!_neg D j hj]
theorem Knows.mono {V : List Bool} {D : List Int} {m n : Nat} (h : Knows V D m) (hn : n ≤ m) : Knows V D n := fun i hi => h i (by omega)
theorem Knows.set {V : List Bool} {D : List Int} {m : Nat} (h : Knows V D m) {i : Nat} (hi : i < D.length) (x : Int) (hx : x = 0 ∨ x = if V[i]! = true then 2 else 1) : Knows V (D.set i x) m := fun j hj => by
  rw [at_set D i j x hi]
  split
  · rename_i e; subst e; exact hx
  · exact h j hj
theorem Knows.set' {V : List Bool} {D : List Int} {m : Nat} (h : Knows V D m) {i : Nat} (hi : i < D.length) (x : Int) (hm : m ≤ i) : Knows V (D.set i x) m := fun j hj => by
  rw [at_set D i j x hi, if_neg (by omega)]
  exact h j hj
/-- of two sheets, what was not asked is the same -/
def Kept (D E : List Int) (m : Nat) : Prop := E.length = D.length ∧ ∀ j, m ≤ j → E[j]! = D[j]!
/-- the walk of an and is done: its node is known, what lies above it is as it was -/
theorem knows_up {V : List Bool} {D E : List Int} {i m : Nat} (h : Knows V D m) (hi : i < D.length) (hE : Knows V E i) (hk : Kept (D.set i 1) E i) (x : Int) (hx : x = if V[i]! = true then 2 else 1) : Knows V (E.set i x) m ∧ Kept D (E.set i x) (i + 1) := by
  obtain ⟨hl, hs⟩ := hk
  rw [List.length_set] at hl
  refine ⟨fun j hj => ?_, by rw [List.length_set, hl], fun j hj => ?_⟩
  · rw [at_set E i j x (by omega)]
    split
    · rename_i e; subst e; exact .inr hx
    · by_cases hji : j < i
      · exact hE j hji
      · rw [hs j (by omega), at_set D i j 1 hi, if_neg (by omega)]
        exact h j hj
  · rw [at_set E i j x (by omega), if_neg (by omega), hs j (by omega), at_set D i j 1 hi, if_neg (by omega)]
end Go.Proofs.Ytcpifmhcebfglaa
