/- A graph of which only some ands are kept: the reference's Renumbered. -/
import Derived.Test.YtbphhcjepeamcaaGrOk
import Derived.Laws.EntriesVeiled
import Derived.StillTailTactics
namespace Go.Proofs.Ytbphhcjepeamcaa
open Go Go.RowKit Go.Sort
set_option linter.unusedVariables false
/-- what becomes of a literal -/
def atL (P : List Int) (l : Int) : Int := 2 * P[ndL l]! + l % 2
/-- the new places of nodes -/
def plL (n : Nat) : Nat → Int → List Bool → List Int
  | _, _, [] => []
  | i, x, b :: t => if i < n then (i : Int) :: plL n (i + 1) x t else if b = true then x :: plL n (i + 1) (x + 1) t else (-1) :: plL n (i + 1) x t
theorem plL_len (n : Nat) : ∀ (t : List Bool) (i : Nat) (x : Int), (plL n i x t).length = t.length
  | [], _, _ => rfl
  | b :: t, i, x => by
    unfold plL
    split
    · simp [plL_len n t]
    · split <;> simp [plL_len n t]
theorem plL_in (n : Nat) : ∀ (t : List Bool) (i : Nat) (x : Int), 0 ≤ x → ∀ y ∈ plL n i x t, -1 ≤ y ∧ (y < i + t.length ∨ y < x + t.length)
  | [], _, _, _, y, h => by cases h
  | b :: t, i, x, hx, y, h => by
    unfold plL at h
    have key : ∀ i' x', i' = i + 1 → 0 ≤ x' → x' ≤ x + 1 → y ∈ plL n i' x' t → -1 ≤ y ∧ (y < i + (b :: t).length ∨ y < x + (b :: t).length) := fun i' x' e1 h0 e2 hm => by
      have := plL_in n t i' x' h0 y hm
      simp only [List.length_cons]
      subst e1
      omega
    split at h
    · rcases List.mem_cons.1 h with rfl | h
      · simp only [List.length_cons]; omega
      · exact key _ _ rfl hx (by omega) h
    · split at h
      · rcases List.mem_cons.1 h with rfl | h
        · simp only [List.length_cons]; omega
        · exact key _ _ rfl (by omega) (by omega) h
      · rcases List.mem_cons.1 h with rfl | h
        · simp only [List.length_cons]; omega
        · exact key _ _ rfl hx (by omega) h
/-- the ands that are kept, of the first j -/
def kL (g : Gr) (keep : List Bool) (P : List Int) : Nat → List (Int × Int)
  | 0 => []
  | j + 1 => if keep[n0L g + j]! = true then kL g keep P j ++ [(atL P g.ands[j]!.1, atL P g.ands[j]!.2)] else kL g keep P j
theorem kL_len (g : Gr) (keep : List Bool) (P : List Int) : ∀ j, (kL g keep P j).length ≤ j
  | 0 => Nat.le_refl _
  | j + 1 => by
    have := kL_len g keep P j
    unfold kL
    split
    · simp; omega
    · omega
set_option maxRecDepth 100000 in
set_option maxHeartbeats 4000000 in
theorem at_any (P : List Int) (vP : Value) (t7 : Nat) (hP : P.length ≤ 5000) (hPb : ∀ y ∈ P, -1 ≤ y ∧ y < 100000) (l : Int) (h0 : 0 ≤ l) (hl : ndL l < P.length) (w : World) (hc : w.cell? ⟨t7, 0, none⟩ = some vP) (hr : RowC (fun n : Int => Value.int .i64 n) P vP w) : Calls Try.prog 96 #[.int .i64 l, .pointer (some ⟨t7, 0, none⟩)] w fun e w' => e = .returned (.int .i64 (atL P l)) ∧ w' = w := by
  obtain ⟨ad, cap, rfl, hcp, _, hrow⟩ := hr
  obtain ⟨bb, oo, rfl, hcell⟩ := hrow.pick (by omega)
  have c0 := hcell _ hl 0 _ rfl
  simp only [Nat.mul_one, Nat.add_zero] at c0
  have hp := hPb P[ndL l]! (by rw [getElem!_pos P _ hl]; exact List.getElem_mem hl)
  have HA := Lib.hid (show atL P l = 2 * P[ndL l]! + l % 2 from rfl)
  have hi0 : 0 ≤ l / 2 := by omega
  have hi1 : l / 2 < (P.length : Int) := by have := ndL_int h0; omega
  have c1 : w.cell? ⟨bb, oo + (l / 2).toNat, none⟩ = some (.int .i64 P[ndL l]!) := c0
  generalize P[ndL l]! = p at c1 hp HA
  have hw : IntKind.i64.wrap (2 * p) = 2 * p := IntWalk.i64_in _ (by omega)
  have HB := Lib.hid (show bits BinOp.or IntKind.i64 (2 * p) (bits BinOp.and IntKind.i64 l 1) = 2 * p + l % 2 by rw [band1]; exact bor1 p _ hp.1 (by omega) (by omega))
  clear hcell c0 hl hp hPb
  go_enter Try.func96, Try.ntmps96
  go_wp2_with fail
  go_ret
  refine ⟨?_, rfl⟩
  rw [HA.out, ← HB.out]
  rfl
end Go.Proofs.Ytbphhcjepeamcaa
