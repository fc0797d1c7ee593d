/- Three stores into one block; what lay below a call keeps standing. -/
import Derived.Test.YtgmgmkhcadimjaaDoorVec
namespace Go.Proofs.YtgmgmkhcadimjaaDoor
open Go Go.RowKit
set_option linter.unusedVariables false
theorem ne_off {p o o' : Nat} (h : o ≠ o') : (⟨p, o, none⟩ : Addr) ≠ ⟨p, o', none⟩ := fun e => h (by injection e)
theorem ne_blk {p q o o' : Nat} (h : p ≠ q) : (⟨p, o, none⟩ : Addr) ≠ ⟨q, o', none⟩ := fun e => h (by injection e)
theorem put3 {W : World} {p : Nat} {u0 u1 u2 : Value} (v0 v1 v2 : Value) (h0 : W.cell? ⟨p, 0, none⟩ = some u0) (h1 : W.cell? ⟨p, 1, none⟩ = some u1) (h2 : W.cell? ⟨p, 2, none⟩ = some u2) :
    (((W.setCell ⟨p, 0, none⟩ v0).setCell ⟨p, 1, none⟩ v1).setCell ⟨p, 2, none⟩ v2).cell? ⟨p, 0, none⟩ = some v0 ∧ (((W.setCell ⟨p, 0, none⟩ v0).setCell ⟨p, 1, none⟩ v1).setCell ⟨p, 2, none⟩ v2).cell? ⟨p, 1, none⟩ = some v1 ∧ (((W.setCell ⟨p, 0, none⟩ v0).setCell ⟨p, 1, none⟩ v1).setCell ⟨p, 2, none⟩ v2).cell? ⟨p, 2, none⟩ = some v2 ∧
    (∀ q o, q ≠ p → (((W.setCell ⟨p, 0, none⟩ v0).setCell ⟨p, 1, none⟩ v1).setCell ⟨p, 2, none⟩ v2).cell? ⟨q, o, none⟩ = W.cell? ⟨q, o, none⟩) ∧ (∀ q o, (((W.setCell ⟨p, 0, none⟩ v0).setCell ⟨p, 1, none⟩ v1).setCell ⟨p, 2, none⟩ v2).frozen? ⟨q, o, none⟩ = W.frozen? ⟨q, o, none⟩) := by
  refine ⟨?_, ?_, ?_, fun q o hq => ?_, fun q o => ?_⟩
  · rw [World.cell?_setCell_other _ _ _ _ (ne_off (by decide)), World.cell?_setCell_other _ _ _ _ (ne_off (by decide)), World.cell?_setCell_same _ _ _ h0]
  · rw [World.cell?_setCell_other _ _ _ _ (ne_off (by decide)), World.cell?_setCell_same (u := u1) _ _ _ (by rw [World.cell?_setCell_other _ _ _ _ (ne_off (by decide)), h1])]
  · rw [World.cell?_setCell_same (u := u2) _ _ _ (by rw [World.cell?_setCell_other _ _ _ _ (ne_off (by decide)), World.cell?_setCell_other _ _ _ _ (ne_off (by decide)), h2])]
  · rw [World.cell?_setCell_other _ _ _ _ (ne_blk (Ne.symm hq)), World.cell?_setCell_other _ _ _ _ (ne_blk (Ne.symm hq)), World.cell?_setCell_other _ _ _ _ (ne_blk (Ne.symm hq))]
  · rw [World.frozen?_setCell, World.frozen?_setCell, World.frozen?_setCell]
theorem kcell0 {W w' : World} {p o : Nat} {v : Value} (hb : Below W.heap.size W w') (h : W.cell? ⟨p, o, none⟩ = some v) : w'.cell? ⟨p, o, none⟩ = some v :=
  (hb.cell (p := ⟨p, o, none⟩) (World.block_lt_of_cell? W _ h)).trans h
theorem kfree {W w' : World} {p : Nat} (hb : Below W.heap.size W w') (hp : p < W.heap.size) (h : ∀ o, W.frozen? ⟨p, o, none⟩ = false) : ∀ o, w'.frozen? ⟨p, o, none⟩ = false :=
  fun o => (hb.frozen (p := ⟨p, o, none⟩) hp).trans (h o)
end Go.Proofs.YtgmgmkhcadimjaaDoor
