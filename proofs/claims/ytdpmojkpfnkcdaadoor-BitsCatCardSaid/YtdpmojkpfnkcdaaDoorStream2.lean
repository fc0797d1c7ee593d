/- The makers' stream: vectors and widths. -/
import Derived.Test.YtdpmojkpfnkcdaaDoorStream
namespace Go.Proofs.YtdpmojkpfnkcdaaDoor
open Go Go.RowKit
set_option linter.unusedVariables false
theorem and_U (x : Int) (m : BitVec 64) : bits .and .u64 x (U m) = U (BitVec.ofInt 64 x &&& m) := by
  have h1 : BitVec.ofInt 64 (U m) = m := by unfold U; simp
  have := (BitVec.ofInt 64 x &&& m).isLt
  show IntKind.u64.wrap ((BitVec.ofInt 64 x &&& BitVec.ofInt 64 (U m)).toNat : Int) = _
  rw [h1, IntKind.wrap_u64]; unfold U; omega
theorem ret_vec {n : Nat} {x : Int} {V : BitVec 64} (h : x = U V) : Ending.returned (.agg #[.int .i64 n, .int .u64 x, .int .u64 0]) = .returned (.agg #[.int .i64 n, .int .u64 (U (⟨V, 0#64⟩ : Vx).v), .int .u64 (U (⟨V, 0#64⟩ : Vx).x)]) := by rw [h]; rfl
theorem grown_cell {b : Nat} {W w : World} (hg : W.grownBy w (some b)) {p : Nat} (hp : p < W.heap.size) (hne : b ≠ p) :
    (∀ o, w.cell? ⟨p, o, none⟩ = W.cell? ⟨p, o, none⟩) ∧ (∀ o, w.frozen? ⟨p, o, none⟩ = W.frozen? ⟨p, o, none⟩) ∧ p < w.heap.size :=
  ⟨fun o => World.cell?_of_block (a := ⟨p, o, none⟩) (hg.block p hp (by simpa using fun h => hne h.symm)), fun o => World.frozen?_of_block (a := ⟨p, o, none⟩) (hg.block p hp (by simpa using fun h => hne h.symm)), Nat.lt_of_lt_of_le hp hg.size⟩
theorem adv_of {b : Nat} {a : Option Addr} {len cap k c : Nat} {w W w3 w4 : World} (hS : Str b a len cap k w) (A : Adv b a len cap k c W w3) (hW : Below w.heap.size w W) (hb : Below w.heap.size w3 w4) (hl : b < w.heap.size) :
    Adv b a len cap k c w w4 := by
  obtain ⟨⟨k1, hk1, s1⟩, g1⟩ := A
  have gr : w.grownBy w4 (some b) := ⟨hb.os.trans (g1.os.trans hW.os), hb.tape.trans (g1.tape.trans hW.tape), hb.output.trans (g1.output.trans hW.output), Nat.le_trans hW.size (Nat.le_trans g1.size hb.size),
    fun i hi hne => (hb.block i hi).trans ((g1.block i (Nat.lt_of_lt_of_le hi hW.size) hne).trans (hW.block i hi))⟩
  exact ⟨⟨k1, hk1, (hb.cell (p := ⟨b, 0, none⟩) hl).trans s1.c0, (hb.cell (p := ⟨b, 1, none⟩) hl).trans s1.c1, (hb.frozen (p := ⟨b, 1, none⟩) hl).trans s1.fz, hS.rd.kept gr⟩, gr⟩
theorem Str.drew' {b : Nat} {a : Option Addr} {len cap k : Nat} {w : World} (h : Str b a len cap k w) : Str b a len cap k w.drew := h.below (Below.refl _ _).drew
theorem adv_undrew {b : Nat} {a : Option Addr} {len cap k c : Nat} {w w' : World} (h : Adv b a len cap k c w.drew w') : Adv b a len cap k c w w' := ⟨h.st, ⟨h.gr.os, h.gr.tape, h.gr.output, h.gr.size, h.gr.block⟩⟩
end Go.Proofs.YtdpmojkpfnkcdaaDoor
