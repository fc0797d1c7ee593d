/- A slice of integers that came in, and the stream over it. -/
import Derived.Test.YtodldcdfdjooaaaGreatDoorStream2
namespace Go.Proofs.YtodldcdfdjooaaaGreatDoor
open Go Go.RowKit
set_option linter.unusedVariables false
/-- a slice of integers that can be read -/
structure Sl (a : Option Addr) (len : Nat) (w : World) : Prop where
  le : len ≤ 17592186044416
  el : ∀ j, j < len → ∃ bl off z, a = some ⟨bl, off, none⟩ ∧ w.cell? ⟨bl, off + j, none⟩ = some (.int .i64 z)
theorem Sl.str {a : Option Addr} {len : Nat} {w : World} (h : Sl a len w) (cap : Nat) (W : World) (hW : W = w.alloc (.cells #[.slice a len cap, .int .i64 0] 39)) : Str w.heap.size a len cap 0 W := by
  subst hW
  refine ⟨by go_simp, by go_simp, by go_simp, h.le, fun j hj => ?_⟩
  obtain ⟨bl, off, z, h1, h2⟩ := h.el j hj
  have hlt : bl < w.heap.size := World.block_lt_of_cell? w _ h2
  exact ⟨bl, off, z, h1, by omega, by go_simp⟩
theorem adv_low {a : Option Addr} {len cap k c : Nat} {w W w1 : World} (A : Adv w.heap.size a len cap k c W w1) (hW : Below w.heap.size w W) : Below w.heap.size w w1 :=
  ⟨A.gr.os.trans hW.os, A.gr.tape.trans hW.tape, A.gr.output.trans hW.output, Nat.le_trans hW.size A.gr.size, fun i hi => (A.gr.block i (Nat.lt_of_lt_of_le hi hW.size) (by simp; omega)).trans (hW.block i hi)⟩
end Go.Proofs.YtodldcdfdjooaaaGreatDoor
