/- Joining a list of vectors: what the program returns. -/
import Derived.Test.YtmaokbdjahgkiaaGreatDoorRaw
import Derived.Test.YtmaokbdjahgkiaaGreatDoorPut3
import Derived.Test.YtmaokbdjahgkiaaGreatDoorParts
import Derived.StillTailTactics
namespace Go.Proofs.YtmaokbdjahgkiaaGreatDoor
open Go Go.RowKit
set_option linter.unusedVariables false
/-- a slice of values of the type of vectors that can be read -/
structure Vs (a : Option Addr) (l : List Rb) (w : World) : Prop where
  le : l.length ≤ 17592186044416
  el : ∀ j, j < l.length → ∃ bl off, a = some ⟨bl, off, none⟩ ∧ w.cell? ⟨bl, off + j * 3, none⟩ = some (.int .i64 (l.getD j ⟨0, 0#64, 0#64⟩).W) ∧ w.cell? ⟨bl, off + j * 3 + 1, none⟩ = some (.int .u64 (U (l.getD j ⟨0, 0#64, 0#64⟩).v)) ∧ w.cell? ⟨bl, off + j * 3 + 2, none⟩ = some (.int .u64 (U (l.getD j ⟨0, 0#64, 0#64⟩).x))
theorem Vs.below {a : Option Addr} {l : List Rb} {w w' : World} (h : Vs a l w) (hb : Below w.heap.size w w') : Vs a l w' := by
  refine ⟨h.le, fun j hj => ?_⟩
  obtain ⟨bl, off, e, c0, c1, c2⟩ := h.el j hj
  have hlt : bl < w.heap.size := World.block_lt_of_cell? w _ c0
  exact ⟨bl, off, e, (hb.cell (p := ⟨bl, _, none⟩) hlt).trans c0, (hb.cell (p := ⟨bl, _, none⟩) hlt).trans c1, (hb.cell (p := ⟨bl, _, none⟩) hlt).trans c2⟩
def cat1 (c b : Rb) : Rb := ⟨c.W + b.W, c.v <<< b.W.toNat ||| b.v, c.x <<< b.W.toNat ||| b.x⟩
/-- the first k parts together -/
def catK (l : List Rb) : Nat → Rb
  | 0 => ⟨0, 0#64, 0#64⟩
  | k + 1 => cat1 (catK l k) (l.getD k ⟨0, 0#64, 0#64⟩)
/-- whether the first k parts can stand together -/
def catOk (l : List Rb) : Nat → Bool
  | 0 => true
  | k + 1 => catOk l k && (l.getD k ⟨0, 0#64, 0#64⟩).okB && decide ((catK l k).W + (l.getD k ⟨0, 0#64, 0#64⟩).W ≤ 64)
def catV (l : List Rb) : Rb := if catOk l l.length then catK l l.length else ⟨0, 0#64, 0#64⟩
theorem catOk_mono (l : List Rb) : ∀ k m, k ≤ m → catOk l k = false → catOk l m = false := by
  intro k m h h0
  induction m with
  | zero => obtain rfl : k = 0 := by omega
            exact h0
  | succ m ih =>
    by_cases e : k = m + 1
    · rw [← e]; exact h0
    · show (catOk l m && _ && _) = false
      rw [ih (by omega)]; rfl
theorem catK_bd (l : List Rb) : ∀ k, catOk l k = true → 0 ≤ (catK l k).W ∧ (catK l k).W ≤ 64 := by
  intro k
  cases k with
  | zero => intro _; exact ⟨Int.le_refl 0, by show (0 : Int) ≤ 64; omega⟩
  | succ k =>
    intro h
    have h' : (catOk l k && (l.getD k ⟨0, 0#64, 0#64⟩).okB && decide ((catK l k).W + (l.getD k ⟨0, 0#64, 0#64⟩).W ≤ 64)) = true := h
    simp only [Bool.and_eq_true, decide_eq_true_eq] at h'
    have hb := catK_bd l k h'.1.1
    obtain ⟨n, e, o⟩ := Rb.ok_of h'.1.2
    have := o.lo
    show 0 ≤ (catK l k).W + _ ∧ (catK l k).W + _ ≤ 64
    omega
theorem catV_bad {l : List Rb} {k : Nat} (hk : k < l.length) (h : (catOk l k && (l.getD k ⟨0, 0#64, 0#64⟩).okB && decide ((catK l k).W + (l.getD k ⟨0, 0#64, 0#64⟩).W ≤ 64)) = false) : catV l = ⟨0, 0#64, 0#64⟩ := by
  have h' : catOk l (k + 1) = false := h
  unfold catV
  rw [catOk_mono l (k + 1) l.length (by omega) h']; rfl
/-- what a round of Cat finds -/
structure CatR (w wr : World) (c : Rb) : Prop where
  g0 : wr.cell? ⟨w.heap.size + 1, 0, none⟩ = some (.int .i64 c.W)
  g1 : wr.cell? ⟨w.heap.size + 1, 1, none⟩ = some (.int .u64 (U c.v))
  g2 : wr.cell? ⟨w.heap.size + 1, 2, none⟩ = some (.int .u64 (U c.x))
  f : ∀ o, wr.frozen? ⟨w.heap.size + 1, o, none⟩ = false
  r0 : wr.cell? ⟨w.heap.size, 0, none⟩ = some (.int .i64 0)
  r1 : wr.cell? ⟨w.heap.size, 1, none⟩ = some (.int .u64 0)
  r2 : wr.cell? ⟨w.heap.size, 2, none⟩ = some (.int .u64 0)
  rf : ∀ o, wr.frozen? ⟨w.heap.size, o, none⟩ = false
  bel : Below w.heap.size w wr
theorem CatR.step {w wr w1 : World} {c : Rb} (h : CatR w wr c) (hb : Below wr.heap.size wr w1) : CatR w w1 c := by
  have l0 : w.heap.size < wr.heap.size := World.block_lt_of_cell? wr _ h.r0
  have l1 : w.heap.size + 1 < wr.heap.size := World.block_lt_of_cell? wr _ h.g0
  exact ⟨kcell0 hb h.g0, kcell0 hb h.g1, kcell0 hb h.g2, kfree hb l1 h.f, kcell0 hb h.r0, kcell0 hb h.r1, kcell0 hb h.r2, kfree hb l0 h.rf, h.bel.trans (hb.mono h.bel.size)⟩
theorem CatR.put {w W : World} {c : Rb} (h : CatR w W c) (d : Rb) : CatR w (((W.setCell ⟨w.heap.size + 1, 0, none⟩ (.int .i64 d.W)).setCell ⟨w.heap.size + 1, 1, none⟩ (.int .u64 (U d.v))).setCell ⟨w.heap.size + 1, 2, none⟩ (.int .u64 (U d.x))).drew d := by
  obtain ⟨x0, x1, x2, x3, x4⟩ := put3 (.int .i64 d.W) (.int .u64 (U d.v)) (.int .u64 (U d.x)) h.g0 h.g1 h.g2
  refine ⟨x0, x1, x2, fun o => (x4 _ o).trans (h.f o), (x3 _ 0 (by omega)).trans h.r0, (x3 _ 1 (by omega)).trans h.r1, (x3 _ 2 (by omega)).trans h.r2, fun o => (x4 _ o).trans (h.rf o), ?_⟩
  exact (((h.bel.setCell (by show w.heap.size ≤ w.heap.size + 1; omega) _).setCell (by show w.heap.size ≤ w.heap.size + 1; omega) _).setCell (by show w.heap.size ≤ w.heap.size + 1; omega) _).drew
end Go.Proofs.YtmaokbdjahgkiaaGreatDoor
