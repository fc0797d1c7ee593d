/- Arrays of a call's own: a row that is read and written; literals of a valid graph. No condition. -/
import Derived.Test.YtcpifmhcebfglaaGrFb
import Derived.Laws.MakeOwn
import Derived.Laws.Rows
import Derived.Laws.OwnMore
namespace Go.Proofs.Ytcpifmhcebfglaa
open Go Go.RowKit Go.Sort
set_option linter.unusedVariables false
/-- an array in a block of its own -/
structure Arr (t : TypeId) {α : Type} (f : α → Value) (g : Nat) (l : List α) (w : World) : Prop where
  blk : w.heap[g]? = some (.cells (l.map f).toArray t (0, 0))
section
variable {t : TypeId} {α : Type} {f : α → Value} {g : Nat} {l : List α} {w w' : World}
theorem Arr.lt (h : Arr t f g l w) : g < w.heap.size := (Array.getElem?_eq_some_iff.1 h.blk).1
theorem Arr.mono {B : Nat} (h : Arr t f g l w) (hb : Below B w w') (hg : g < B) : Arr t f g l w' := ⟨(hb.block g hg).trans h.blk⟩
theorem Arr.below (h : Arr t f g l w) (hb : Below w.heap.size w w') : Arr t f g l w' := h.mono hb h.lt
theorem Arr.cell [Inhabited α] (h : Arr t f g l w) {j : Nat} (hj : j < l.length) : w.cell? ⟨g, j, none⟩ = some (f l[j]!) := by
  rw [cell_of_row w g j _ t _ h.blk]
  simp only [List.getElem?_toArray, List.getElem?_map, List.getElem?_eq_getElem hj, Option.map_some, getElem!_pos l j hj]
theorem Arr.free (h : Arr t f g l w) (j : Nat) : w.frozen? ⟨g, j, none⟩ = false := frozen_of_row w g j _ t h.blk
theorem Arr.set (h : Arr t f g l w) (j : Nat) (x : α) : Arr t f g (l.set j x) (w.setCell ⟨g, j, none⟩ (f x)) := by
  refine ⟨?_⟩
  rw [heap_setCell_same w g j _ t _ h.blk]
  simp [List.map_set]
theorem Arr.other (h : Arr t f g l w) {p : Addr} {v : Value} (hp : g ≠ p.block) : Arr t f g l (w.setCell p v) := by
  refine ⟨?_⟩
  rw [← h.blk]
  exact Below.heap_setCell w p v g hp
theorem Arr.new (w : World) (n : Nat) (x : α) (t : TypeId) : Arr t f w.heap.size (List.replicate n x) (w.alloc (.cells (Array.replicate n (f x)) t)) := by
  refine ⟨?_⟩
  have e : (w.alloc (.cells (Array.replicate n (f x)) t)).heap[w.heap.size]? = some (.cells (Array.replicate n (f x)) t (0, 0)) := by show (w.heap.push _)[w.heap.size]? = _; simp
  rw [e]; simp
theorem made_one (z : Value) (n : Nat) : madeCells #[z] n = Array.replicate n z := by
  apply Array.toList_inj.1
  rw [toList_madeCells_one, Array.toList_replicate]
theorem Arr.made (w : World) (n : Nat) (x : α) (t : TypeId) : Arr t f w.heap.size (List.replicate n x) (w.alloc (.cells (madeCells #[f x] n) t)) := by
  rw [made_one]; exact Arr.new w n x t
end
/-- what is known of a valid graph -/
structure VG (g : Gr) : Prop where
  ins : g.ins.length ≤ 128
  outN : g.outN.length ≤ 128
  regs : g.regs.length ≤ 288
  ands : g.ands.length ≤ 4000
  same : g.outs.length = g.outN.length
  lits : ∀ j, j < g.ands.length → (0 ≤ g.ands[j]!.1 ∧ g.ands[j]!.1 < baseL g + 2 * j) ∧ (0 ≤ g.ands[j]!.2 ∧ g.ands[j]!.2 < baseL g + 2 * j)
  next : ∀ r ∈ g.regs, 0 ≤ r.nx ∧ r.nx < allL g
  out : ∀ l ∈ g.outs, 0 ≤ l ∧ l < allL g
theorem bad_no {n l : Int} (h : badL n l = false) : 0 ≤ l ∧ l < n := by
  unfold badL at h
  simp only [Bool.or_eq_false_iff, decide_eq_false_iff_not] at h
  omega
theorem ands_no : ∀ {l : List (Int × Int)} {n : Int}, andsF n l = false → ∀ j, j < l.length → (0 ≤ l[j]!.1 ∧ l[j]!.1 < n + 2 * j) ∧ (0 ≤ l[j]!.2 ∧ l[j]!.2 < n + 2 * j)
  | [], _, _, j, hj => by simp at hj
  | p :: l, n, h, j, hj => by
    simp only [andsF, Bool.or_eq_false_iff] at h
    cases j with
    | zero =>
      have h1 := bad_no h.1.1
      have h2 := bad_no h.1.2
      simp
      omega
    | succ j =>
      have := ands_no h.2 j (by simpa using hj)
      simp only [List.length_cons] at hj
      have e : (p :: l)[j + 1]! = l[j]! := by simp
      rw [e]; omega
theorem vg_of {g : Gr} (h : faultG g = 0) : VG g := by
  unfold faultG at h
  split at h
  · omega
  rename_i h1
  split at h
  · omega
  rename_i h2
  split at h
  · rename_i h3; exact absurd h h3
  split at h
  · omega
  rename_i h4
  have h5 : andsF (baseL g) g.ands = false := by
    cases e : andsF (baseL g) g.ands with
    | false => rfl
    | true => exact absurd (.inl e) h4
  have h6 : (g.regs.any fun r => badL (allL g) r.nx) = false := by
    cases e : (g.regs.any fun r => badL (allL g) r.nx) with
    | false => rfl
    | true => exact absurd (.inr (.inl e)) h4
  have h7 : anyB (allL g) g.outs = false := by
    cases e : anyB (allL g) g.outs with
    | false => rfl
    | true => exact absurd (.inr (.inr e)) h4
  refine ⟨by omega, by omega, by omega, by omega, by omega, ands_no h5, fun r hr => ?_, fun l hl => ?_⟩
  · refine bad_no ?_
    cases e : badL (allL g) r.nx with
    | false => rfl
    | true => rw [List.any_eq_true.2 ⟨r, hr, e⟩] at h6; cases h6
  · refine bad_no ?_
    unfold anyB at h7
    cases e : badL (allL g) l with
    | false => rfl
    | true => rw [List.any_eq_true.2 ⟨l, hl, e⟩] at h7; cases h7
/-- the node of a literal -/
def ndL (l : Int) : Nat := (l / 2).toNat
theorem ndL_lt {l n : Int} (h0 : 0 ≤ l) (h : l < 2 * n) : (ndL l : Int) < n := by unfold ndL; omega
theorem ndL_int {l : Int} (h0 : 0 ≤ l) : ((ndL l : Nat) : Int) = l / 2 := by unfold ndL; omega
end Go.Proofs.Ytcpifmhcebfglaa
