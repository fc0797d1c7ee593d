/- The law BitsDual: its walk. -/
import Derived.Test.YtkjlhhaiephmdaaDoorJoined
import Derived.Test.YtkjlhhaiephmdaaDoorSl
import Derived.Test.YtkjlhhaiephmdaaDoorDual
import Derived.Deep.RegionHeld3
import Derived.Test.YtkjlhhaiephmdaaDoorLate
namespace Go.Proofs.YtkjlhhaiephmdaaDoor
open Go Go.RowKit
set_option linter.unusedVariables false
theorem keep_cell {W w' : World} {p o : Nat} {v : Value} (hb : Below W.heap.size W w') (h : W.cell? ⟨p, o, none⟩ = some v) : w'.cell? ⟨p, o, none⟩ = some v :=
  (hb.cell (p := ⟨p, o, none⟩) (World.block_lt_of_cell? W _ h)).trans h
theorem hl_step {w0 W w' : World} (hb : Below W.heap.size W w') (hl : Below w0.heap.size w0 W) : Below w0.heap.size w0 w' := hl.trans (hb.mono hl.size)
theorem keep2 {w0 W w' : World} {p0 : Nat} {p1 : Nat} {n0 : Int} {n1 : Int} {v0 : Vx} {v1 : Vx} (hb : Below W.heap.size W w') (h0 : W.cell? ⟨p0, 0, none⟩ = some (.int .i64 n0)) (h1 : W.cell? ⟨p0, 1, none⟩ = some (.int .u64 (U v0.v))) (h2 : W.cell? ⟨p0, 2, none⟩ = some (.int .u64 (U v0.x))) (h3 : W.cell? ⟨p1, 0, none⟩ = some (.int .i64 n1)) (h4 : W.cell? ⟨p1, 1, none⟩ = some (.int .u64 (U v1.v))) (h5 : W.cell? ⟨p1, 2, none⟩ = some (.int .u64 (U v1.x))) (hl : Below w0.heap.size w0 W) :
    w'.cell? ⟨p0, 0, none⟩ = some (.int .i64 n0) ∧ w'.cell? ⟨p0, 1, none⟩ = some (.int .u64 (U v0.v)) ∧ w'.cell? ⟨p0, 2, none⟩ = some (.int .u64 (U v0.x)) ∧ w'.cell? ⟨p1, 0, none⟩ = some (.int .i64 n1) ∧ w'.cell? ⟨p1, 1, none⟩ = some (.int .u64 (U v1.v)) ∧ w'.cell? ⟨p1, 2, none⟩ = some (.int .u64 (U v1.x)) ∧ Below w0.heap.size w0 w' :=
  ⟨keep_cell hb h0, keep_cell hb h1, keep_cell hb h2, keep_cell hb h3, keep_cell hb h4, keep_cell hb h5, hl.trans (hb.mono hl.size)⟩
theorem keep2c {w0 W w' : World} {p0 : Nat} {p1 : Nat} {n0 : Int} {n1 : Int} {v0 : Vx} {v1 : Vx} (hb : Below W.heap.size W w') (h : W.cell? ⟨p0, 0, none⟩ = some (.int .i64 n0) ∧ W.cell? ⟨p0, 1, none⟩ = some (.int .u64 (U v0.v)) ∧ W.cell? ⟨p0, 2, none⟩ = some (.int .u64 (U v0.x)) ∧ W.cell? ⟨p1, 0, none⟩ = some (.int .i64 n1) ∧ W.cell? ⟨p1, 1, none⟩ = some (.int .u64 (U v1.v)) ∧ W.cell? ⟨p1, 2, none⟩ = some (.int .u64 (U v1.x)) ∧ Below w0.heap.size w0 W) :
    w'.cell? ⟨p0, 0, none⟩ = some (.int .i64 n0) ∧ w'.cell? ⟨p0, 1, none⟩ = some (.int .u64 (U v0.v)) ∧ w'.cell? ⟨p0, 2, none⟩ = some (.int .u64 (U v0.x)) ∧ w'.cell? ⟨p1, 0, none⟩ = some (.int .i64 n1) ∧ w'.cell? ⟨p1, 1, none⟩ = some (.int .u64 (U v1.v)) ∧ w'.cell? ⟨p1, 2, none⟩ = some (.int .u64 (U v1.x)) ∧ Below w0.heap.size w0 w' :=
  keep2 hb h.1 h.2.1 h.2.2.1 h.2.2.2.1 h.2.2.2.2.1 h.2.2.2.2.2.1 h.2.2.2.2.2.2
theorem keep2d {w0 W w' : World} {p0 : Nat} {p1 : Nat} {n0 : Int} {n1 : Int} {v0 : Vx} {v1 : Vx} (hb : Below W.drew.heap.size W.drew w') (h0 : W.cell? ⟨p0, 0, none⟩ = some (.int .i64 n0)) (h1 : W.cell? ⟨p0, 1, none⟩ = some (.int .u64 (U v0.v))) (h2 : W.cell? ⟨p0, 2, none⟩ = some (.int .u64 (U v0.x))) (h3 : W.cell? ⟨p1, 0, none⟩ = some (.int .i64 n1)) (h4 : W.cell? ⟨p1, 1, none⟩ = some (.int .u64 (U v1.v))) (h5 : W.cell? ⟨p1, 2, none⟩ = some (.int .u64 (U v1.x))) (hl : Below w0.heap.size w0 W) :
    w'.cell? ⟨p0, 0, none⟩ = some (.int .i64 n0) ∧ w'.cell? ⟨p0, 1, none⟩ = some (.int .u64 (U v0.v)) ∧ w'.cell? ⟨p0, 2, none⟩ = some (.int .u64 (U v0.x)) ∧ w'.cell? ⟨p1, 0, none⟩ = some (.int .i64 n1) ∧ w'.cell? ⟨p1, 1, none⟩ = some (.int .u64 (U v1.v)) ∧ w'.cell? ⟨p1, 2, none⟩ = some (.int .u64 (U v1.x)) ∧ Below w0.heap.size w0 w' :=
  keep2 (W := W) ⟨hb.os, hb.tape, hb.output, hb.size, hb.block⟩ h0 h1 h2 h3 h4 h5 hl
/-- what the loop knows of memory -/
structure RS (w : World) (pa p n : Nat) (a : Vx) (k : Nat) (W : World) : Prop where
  a0 : W.cell? ⟨pa, 0, none⟩ = some (.int .i64 n)
  a1 : W.cell? ⟨pa, 1, none⟩ = some (.int .u64 (U a.v))
  a2 : W.cell? ⟨pa, 2, none⟩ = some (.int .u64 (U a.x))
  l0 : W.cell? ⟨p, 0, none⟩ = some (.int .i64 1)
  l1 : W.cell? ⟨p, 1, none⟩ = some (.int .u64 (U (fa a k).v))
  l2 : W.cell? ⟨p, 2, none⟩ = some (.int .u64 (U (fa a k).x))
  s0 : W.cell? ⟨(p + 1), 0, none⟩ = some (.int .i64 1)
  s1 : W.cell? ⟨(p + 1), 1, none⟩ = some (.int .u64 (U (fo a k).v))
  s2 : W.cell? ⟨(p + 1), 2, none⟩ = some (.int .u64 (U (fo a k).x))
  o0 : W.cell? ⟨(p + 1 + 1), 0, none⟩ = some (.int .i64 1)
  o1 : W.cell? ⟨(p + 1 + 1), 1, none⟩ = some (.int .u64 (U (fx a k).v))
  o2 : W.cell? ⟨(p + 1 + 1), 2, none⟩ = some (.int .u64 (U (fx a k).x))
  lf : ∀ o, W.frozen? ⟨p, o, none⟩ = false
  sf : ∀ o, W.frozen? ⟨p + 1, o, none⟩ = false
  of : ∀ o, W.frozen? ⟨p + 1 + 1, o, none⟩ = false
  low : Below w.heap.size w W
theorem keep_fr {W w' : World} {p : Nat} (hb : Below W.heap.size W w') (hp : p < W.heap.size) (h : ∀ o, W.frozen? ⟨p, o, none⟩ = false) : ∀ o, w'.frozen? ⟨p, o, none⟩ = false :=
  fun o => (hb.frozen (p := ⟨p, o, none⟩) hp).trans (h o)
theorem RS.keep {w : World} {pa p n : Nat} {a : Vx} {k : Nat} {W w' : World} (h : RS w pa p n a k W) (hb : Below W.heap.size W w') : RS w pa p n a k w' :=
  ⟨keep_cell hb h.a0, keep_cell hb h.a1, keep_cell hb h.a2, keep_cell hb h.l0, keep_cell hb h.l1, keep_cell hb h.l2, keep_cell hb h.s0, keep_cell hb h.s1, keep_cell hb h.s2, keep_cell hb h.o0, keep_cell hb h.o1, keep_cell hb h.o2, keep_fr hb (World.block_lt_of_cell? W _ h.l0) h.lf, keep_fr hb (World.block_lt_of_cell? W _ h.s0) h.sf, keep_fr hb (World.block_lt_of_cell? W _ h.o0) h.of, h.low.trans (hb.mono h.low.size)⟩
structure CS (q : Nat) (b : Vx) (W : World) : Prop where
  c0 : W.cell? ⟨q, 0, none⟩ = some (.int .i64 1)
  c1 : W.cell? ⟨q, 1, none⟩ = some (.int .u64 (U b.v))
  c2 : W.cell? ⟨q, 2, none⟩ = some (.int .u64 (U b.x))
theorem CS.keep {q : Nat} {b : Vx} {W w' : World} (h : CS q b W) (hb : Below W.heap.size W w') : CS q b w' :=
  ⟨keep_cell hb h.c0, keep_cell hb h.c1, keep_cell hb h.c2⟩
theorem slice_bit (n k : Nat) (a : Vx) (w : World) (ha : a.ok n) (h : k < n) (hn : n ≤ 64) : Calls Tryd.prog 39 #[.agg #[.int .i64 n, .int .u64 (U a.v), .int .u64 (U a.x)], .int .i64 k, .int .i64 1] w fun e w' => e = .returned (.agg #[.int .i64 1, .int .u64 (U (bitv a k).v), .int .u64 (U (bitv a k).x)]) ∧ Below w.heap.size w w' :=
  slice_ok n k 1 a w ha (by decide) (by omega) (by decide) hn
theorem keep4 {w0 W w' : World} {p0 : Nat} {p1 : Nat} {p2 : Nat} {p3 : Nat} {n0 : Int} {n1 : Int} {n2 : Int} {n3 : Int} {v0 : Vx} {v1 : Vx} {v2 : Vx} {v3 : Vx} (hb : Below W.heap.size W w') (h0 : W.cell? ⟨p0, 0, none⟩ = some (.int .i64 n0)) (h1 : W.cell? ⟨p0, 1, none⟩ = some (.int .u64 (U v0.v))) (h2 : W.cell? ⟨p0, 2, none⟩ = some (.int .u64 (U v0.x))) (h3 : W.cell? ⟨p1, 0, none⟩ = some (.int .i64 n1)) (h4 : W.cell? ⟨p1, 1, none⟩ = some (.int .u64 (U v1.v))) (h5 : W.cell? ⟨p1, 2, none⟩ = some (.int .u64 (U v1.x))) (h6 : W.cell? ⟨p2, 0, none⟩ = some (.int .i64 n2)) (h7 : W.cell? ⟨p2, 1, none⟩ = some (.int .u64 (U v2.v))) (h8 : W.cell? ⟨p2, 2, none⟩ = some (.int .u64 (U v2.x))) (h9 : W.cell? ⟨p3, 0, none⟩ = some (.int .i64 n3)) (h10 : W.cell? ⟨p3, 1, none⟩ = some (.int .u64 (U v3.v))) (h11 : W.cell? ⟨p3, 2, none⟩ = some (.int .u64 (U v3.x))) (hl : Below w0.heap.size w0 W) :
    w'.cell? ⟨p0, 0, none⟩ = some (.int .i64 n0) ∧ w'.cell? ⟨p0, 1, none⟩ = some (.int .u64 (U v0.v)) ∧ w'.cell? ⟨p0, 2, none⟩ = some (.int .u64 (U v0.x)) ∧ w'.cell? ⟨p1, 0, none⟩ = some (.int .i64 n1) ∧ w'.cell? ⟨p1, 1, none⟩ = some (.int .u64 (U v1.v)) ∧ w'.cell? ⟨p1, 2, none⟩ = some (.int .u64 (U v1.x)) ∧ w'.cell? ⟨p2, 0, none⟩ = some (.int .i64 n2) ∧ w'.cell? ⟨p2, 1, none⟩ = some (.int .u64 (U v2.v)) ∧ w'.cell? ⟨p2, 2, none⟩ = some (.int .u64 (U v2.x)) ∧ w'.cell? ⟨p3, 0, none⟩ = some (.int .i64 n3) ∧ w'.cell? ⟨p3, 1, none⟩ = some (.int .u64 (U v3.v)) ∧ w'.cell? ⟨p3, 2, none⟩ = some (.int .u64 (U v3.x)) ∧ Below w0.heap.size w0 w' :=
  ⟨keep_cell hb h0, keep_cell hb h1, keep_cell hb h2, keep_cell hb h3, keep_cell hb h4, keep_cell hb h5, keep_cell hb h6, keep_cell hb h7, keep_cell hb h8, keep_cell hb h9, keep_cell hb h10, keep_cell hb h11, hl.trans (hb.mono hl.size)⟩
theorem keep4c {w0 W w' : World} {p0 : Nat} {p1 : Nat} {p2 : Nat} {p3 : Nat} {n0 : Int} {n1 : Int} {n2 : Int} {n3 : Int} {v0 : Vx} {v1 : Vx} {v2 : Vx} {v3 : Vx} (hb : Below W.heap.size W w') (h : W.cell? ⟨p0, 0, none⟩ = some (.int .i64 n0) ∧ W.cell? ⟨p0, 1, none⟩ = some (.int .u64 (U v0.v)) ∧ W.cell? ⟨p0, 2, none⟩ = some (.int .u64 (U v0.x)) ∧ W.cell? ⟨p1, 0, none⟩ = some (.int .i64 n1) ∧ W.cell? ⟨p1, 1, none⟩ = some (.int .u64 (U v1.v)) ∧ W.cell? ⟨p1, 2, none⟩ = some (.int .u64 (U v1.x)) ∧ W.cell? ⟨p2, 0, none⟩ = some (.int .i64 n2) ∧ W.cell? ⟨p2, 1, none⟩ = some (.int .u64 (U v2.v)) ∧ W.cell? ⟨p2, 2, none⟩ = some (.int .u64 (U v2.x)) ∧ W.cell? ⟨p3, 0, none⟩ = some (.int .i64 n3) ∧ W.cell? ⟨p3, 1, none⟩ = some (.int .u64 (U v3.v)) ∧ W.cell? ⟨p3, 2, none⟩ = some (.int .u64 (U v3.x)) ∧ Below w0.heap.size w0 W) :
    w'.cell? ⟨p0, 0, none⟩ = some (.int .i64 n0) ∧ w'.cell? ⟨p0, 1, none⟩ = some (.int .u64 (U v0.v)) ∧ w'.cell? ⟨p0, 2, none⟩ = some (.int .u64 (U v0.x)) ∧ w'.cell? ⟨p1, 0, none⟩ = some (.int .i64 n1) ∧ w'.cell? ⟨p1, 1, none⟩ = some (.int .u64 (U v1.v)) ∧ w'.cell? ⟨p1, 2, none⟩ = some (.int .u64 (U v1.x)) ∧ w'.cell? ⟨p2, 0, none⟩ = some (.int .i64 n2) ∧ w'.cell? ⟨p2, 1, none⟩ = some (.int .u64 (U v2.v)) ∧ w'.cell? ⟨p2, 2, none⟩ = some (.int .u64 (U v2.x)) ∧ w'.cell? ⟨p3, 0, none⟩ = some (.int .i64 n3) ∧ w'.cell? ⟨p3, 1, none⟩ = some (.int .u64 (U v3.v)) ∧ w'.cell? ⟨p3, 2, none⟩ = some (.int .u64 (U v3.x)) ∧ Below w0.heap.size w0 w' :=
  keep4 hb h.1 h.2.1 h.2.2.1 h.2.2.2.1 h.2.2.2.2.1 h.2.2.2.2.2.1 h.2.2.2.2.2.2.1 h.2.2.2.2.2.2.2.1 h.2.2.2.2.2.2.2.2.1 h.2.2.2.2.2.2.2.2.2.1 h.2.2.2.2.2.2.2.2.2.2.1 h.2.2.2.2.2.2.2.2.2.2.2.1 h.2.2.2.2.2.2.2.2.2.2.2.2
theorem keep4d {w0 W w' : World} {p0 : Nat} {p1 : Nat} {p2 : Nat} {p3 : Nat} {n0 : Int} {n1 : Int} {n2 : Int} {n3 : Int} {v0 : Vx} {v1 : Vx} {v2 : Vx} {v3 : Vx} (hb : Below W.drew.heap.size W.drew w') (h0 : W.cell? ⟨p0, 0, none⟩ = some (.int .i64 n0)) (h1 : W.cell? ⟨p0, 1, none⟩ = some (.int .u64 (U v0.v))) (h2 : W.cell? ⟨p0, 2, none⟩ = some (.int .u64 (U v0.x))) (h3 : W.cell? ⟨p1, 0, none⟩ = some (.int .i64 n1)) (h4 : W.cell? ⟨p1, 1, none⟩ = some (.int .u64 (U v1.v))) (h5 : W.cell? ⟨p1, 2, none⟩ = some (.int .u64 (U v1.x))) (h6 : W.cell? ⟨p2, 0, none⟩ = some (.int .i64 n2)) (h7 : W.cell? ⟨p2, 1, none⟩ = some (.int .u64 (U v2.v))) (h8 : W.cell? ⟨p2, 2, none⟩ = some (.int .u64 (U v2.x))) (h9 : W.cell? ⟨p3, 0, none⟩ = some (.int .i64 n3)) (h10 : W.cell? ⟨p3, 1, none⟩ = some (.int .u64 (U v3.v))) (h11 : W.cell? ⟨p3, 2, none⟩ = some (.int .u64 (U v3.x))) (hl : Below w0.heap.size w0 W) :
    w'.cell? ⟨p0, 0, none⟩ = some (.int .i64 n0) ∧ w'.cell? ⟨p0, 1, none⟩ = some (.int .u64 (U v0.v)) ∧ w'.cell? ⟨p0, 2, none⟩ = some (.int .u64 (U v0.x)) ∧ w'.cell? ⟨p1, 0, none⟩ = some (.int .i64 n1) ∧ w'.cell? ⟨p1, 1, none⟩ = some (.int .u64 (U v1.v)) ∧ w'.cell? ⟨p1, 2, none⟩ = some (.int .u64 (U v1.x)) ∧ w'.cell? ⟨p2, 0, none⟩ = some (.int .i64 n2) ∧ w'.cell? ⟨p2, 1, none⟩ = some (.int .u64 (U v2.v)) ∧ w'.cell? ⟨p2, 2, none⟩ = some (.int .u64 (U v2.x)) ∧ w'.cell? ⟨p3, 0, none⟩ = some (.int .i64 n3) ∧ w'.cell? ⟨p3, 1, none⟩ = some (.int .u64 (U v3.v)) ∧ w'.cell? ⟨p3, 2, none⟩ = some (.int .u64 (U v3.x)) ∧ Below w0.heap.size w0 w' :=
  keep4 (W := W) ⟨hb.os, hb.tape, hb.output, hb.size, hb.block⟩ h0 h1 h2 h3 h4 h5 h6 h7 h8 h9 h10 h11 hl
theorem redand_f (n : Nat) (a : Vx) (w : World) (ha : a.ok n) : Calls Tryd.prog 54 #[.agg #[.int .i64 n, .int .u64 (U a.v), .int .u64 (U a.x)]] w fun e w' => e = .returned (.agg #[.int .i64 1, .int .u64 (U (fa a n).v), .int .u64 (U (fa a n).x)]) ∧ Below w.heap.size w w' := by
  have h := redand_ok n a w ha
  rwa [redand_is ha] at h
theorem redor_f (n : Nat) (a : Vx) (w : World) (ha : a.ok n) : Calls Tryd.prog 55 #[.agg #[.int .i64 n, .int .u64 (U a.v), .int .u64 (U a.x)]] w fun e w' => e = .returned (.agg #[.int .i64 1, .int .u64 (U (fo a n).v), .int .u64 (U (fo a n).x)]) ∧ Below w.heap.size w w' := by
  have h := redor_ok' n a w ha
  rwa [redor_is ha] at h
theorem redxor_f (n : Nat) (a : Vx) (w : World) (ha : a.ok n) : Calls Tryd.prog 56 #[.agg #[.int .i64 n, .int .u64 (U a.v), .int .u64 (U a.x)]] w fun e w' => e = .returned (.agg #[.int .i64 1, .int .u64 (U (fx a n).v), .int .u64 (U (fx a n).x)]) ∧ Below w.heap.size w w' := by
  have h := redxor_ok' n a w ha
  rwa [redxor_is ha] at h
theorem ne_off {p o o' : Nat} (h : o ≠ o') : (⟨p, o, none⟩ : Addr) ≠ ⟨p, o', none⟩ := fun e => h (by injection e)
theorem ne_blk {p q o o' : Nat} (h : p ≠ q) : (⟨p, o, none⟩ : Addr) ≠ ⟨q, o', none⟩ := fun e => h (by injection e)
theorem put3 {W : World} {p : Nat} {u0 u1 u2 : Value} (v0 v1 v2 : Value) (h0 : W.cell? ⟨p, 0, none⟩ = some u0) (h1 : W.cell? ⟨p, 1, none⟩ = some u1) (h2 : W.cell? ⟨p, 2, none⟩ = some u2) :
    (((W.setCell ⟨p, 0, none⟩ v0).setCell ⟨p, 1, none⟩ v1).setCell ⟨p, 2, none⟩ v2).cell? ⟨p, 0, none⟩ = some v0 ∧ (((W.setCell ⟨p, 0, none⟩ v0).setCell ⟨p, 1, none⟩ v1).setCell ⟨p, 2, none⟩ v2).cell? ⟨p, 1, none⟩ = some v1 ∧ (((W.setCell ⟨p, 0, none⟩ v0).setCell ⟨p, 1, none⟩ v1).setCell ⟨p, 2, none⟩ v2).cell? ⟨p, 2, none⟩ = some v2 ∧
    (∀ q o, q ≠ p → (((W.setCell ⟨p, 0, none⟩ v0).setCell ⟨p, 1, none⟩ v1).setCell ⟨p, 2, none⟩ v2).cell? ⟨q, o, none⟩ = W.cell? ⟨q, o, none⟩) ∧ (∀ q o, (((W.setCell ⟨p, 0, none⟩ v0).setCell ⟨p, 1, none⟩ v1).setCell ⟨p, 2, none⟩ v2).frozen? ⟨q, o, none⟩ = W.frozen? ⟨q, o, none⟩) := by
  refine ⟨?_, ?_, ?_, fun q o hq => ?_, fun q o => ?_⟩
  · rw [World.cell?_setCell_other _ _ _ _ (ne_off (by decide)), World.cell?_setCell_other _ _ _ _ (ne_off (by decide)), World.cell?_setCell_same _ _ _ h0]
  · rw [World.cell?_setCell_other _ _ _ _ (ne_off (by decide)), World.cell?_setCell_same (u := u1) _ _ _ (by rw [World.cell?_setCell_other _ _ _ _ (ne_off (by decide)), h1])]
  · rw [World.cell?_setCell_same (u := u2) _ _ _ (by rw [World.cell?_setCell_other _ _ _ _ (ne_off (by decide)), World.cell?_setCell_other _ _ _ _ (ne_off (by decide)), h2])]
  · rw [World.cell?_setCell_other _ _ _ _ (ne_blk (Ne.symm hq)), World.cell?_setCell_other _ _ _ _ (ne_blk (Ne.symm hq)), World.cell?_setCell_other _ _ _ _ (ne_blk (Ne.symm hq))]
  · rw [World.frozen?_setCell, World.frozen?_setCell, World.frozen?_setCell]
theorem RS.next {w : World} {pa p n : Nat} {a : Vx} {k : Nat} {W : World} (h : RS w pa p n a k W) (hpa : pa < p) (hw : w.heap.size ≤ p) : RS w pa p n a (k + 1) (((((((((W.setCell ⟨p, 0, none⟩ (.int .i64 1)).setCell ⟨p, 1, none⟩ (.int .u64 (U (vand 1 (fa a k) (bitv a k)).v))).setCell ⟨p, 2, none⟩ (.int .u64 (U (vand 1 (fa a k) (bitv a k)).x))).setCell ⟨(p + 1), 0, none⟩ (.int .i64 1)).setCell ⟨(p + 1), 1, none⟩ (.int .u64 (U (vor 1 (fo a k) (bitv a k)).v))).setCell ⟨(p + 1), 2, none⟩ (.int .u64 (U (vor 1 (fo a k) (bitv a k)).x))).setCell ⟨(p + 1 + 1), 0, none⟩ (.int .i64 1)).setCell ⟨(p + 1 + 1), 1, none⟩ (.int .u64 (U (vxor 1 (fx a k) (bitv a k)).v))).setCell ⟨(p + 1 + 1), 2, none⟩ (.int .u64 (U (vxor 1 (fx a k) (bitv a k)).x))) := by
  obtain ⟨ra0, ra1, ra2, rl0, rl1, rl2, rs0, rs1, rs2, ro0, ro1, ro2, rlf, rsf, rof, hlow⟩ := h
  obtain ⟨x0, x1, x2, x3, x4⟩ := put3 (.int .i64 1) (.int .u64 (U (vand 1 (fa a k) (bitv a k)).v)) (.int .u64 (U (vand 1 (fa a k) (bitv a k)).x)) rl0 rl1 rl2
  have L1 := ((hlow.setCell (p := ⟨p, 0, none⟩) hw (.int .i64 1)).setCell (p := ⟨p, 1, none⟩) hw (.int .u64 (U (vand 1 (fa a k) (bitv a k)).v))).setCell (p := ⟨p, 2, none⟩) hw (.int .u64 (U (vand 1 (fa a k) (bitv a k)).x))
  generalize (((W.setCell ⟨p, 0, none⟩ (.int .i64 1)).setCell ⟨p, 1, none⟩ (.int .u64 (U (vand 1 (fa a k) (bitv a k)).v))).setCell ⟨p, 2, none⟩ (.int .u64 (U (vand 1 (fa a k) (bitv a k)).x))) = W1 at x0 x1 x2 x3 x4 L1 ⊢
  obtain ⟨y0, y1, y2, y3, y4⟩ := put3 (.int .i64 1) (.int .u64 (U (vor 1 (fo a k) (bitv a k)).v)) (.int .u64 (U (vor 1 (fo a k) (bitv a k)).x)) ((x3 (p + 1) 0 (by omega)).trans rs0) ((x3 (p + 1) 1 (by omega)).trans rs1) ((x3 (p + 1) 2 (by omega)).trans rs2)
  have L2 := ((L1.setCell (p := ⟨p + 1, 0, none⟩) (show w.heap.size ≤ p + 1 from by omega) (.int .i64 1)).setCell (p := ⟨p + 1, 1, none⟩) (show w.heap.size ≤ p + 1 from by omega) (.int .u64 (U (vor 1 (fo a k) (bitv a k)).v))).setCell (p := ⟨p + 1, 2, none⟩) (show w.heap.size ≤ p + 1 from by omega) (.int .u64 (U (vor 1 (fo a k) (bitv a k)).x))
  generalize (((W1.setCell ⟨(p + 1), 0, none⟩ (.int .i64 1)).setCell ⟨(p + 1), 1, none⟩ (.int .u64 (U (vor 1 (fo a k) (bitv a k)).v))).setCell ⟨(p + 1), 2, none⟩ (.int .u64 (U (vor 1 (fo a k) (bitv a k)).x))) = W2 at y0 y1 y2 y3 y4 L2 ⊢
  obtain ⟨z0, z1, z2, z3, z4⟩ := put3 (.int .i64 1) (.int .u64 (U (vxor 1 (fx a k) (bitv a k)).v)) (.int .u64 (U (vxor 1 (fx a k) (bitv a k)).x)) ((y3 (p + 1 + 1) 0 (by omega)).trans ((x3 (p + 1 + 1) 0 (by omega)).trans ro0)) ((y3 (p + 1 + 1) 1 (by omega)).trans ((x3 (p + 1 + 1) 1 (by omega)).trans ro1)) ((y3 (p + 1 + 1) 2 (by omega)).trans ((x3 (p + 1 + 1) 2 (by omega)).trans ro2))
  have L3 := ((L2.setCell (p := ⟨p + 1 + 1, 0, none⟩) (show w.heap.size ≤ p + 1 + 1 from by omega) (.int .i64 1)).setCell (p := ⟨p + 1 + 1, 1, none⟩) (show w.heap.size ≤ p + 1 + 1 from by omega) (.int .u64 (U (vxor 1 (fx a k) (bitv a k)).v))).setCell (p := ⟨p + 1 + 1, 2, none⟩) (show w.heap.size ≤ p + 1 + 1 from by omega) (.int .u64 (U (vxor 1 (fx a k) (bitv a k)).x))
  have e : ∀ q o, q ≠ p → q ≠ p + 1 → q ≠ p + 1 + 1 → (((W2.setCell ⟨(p + 1 + 1), 0, none⟩ (.int .i64 1)).setCell ⟨(p + 1 + 1), 1, none⟩ (.int .u64 (U (vxor 1 (fx a k) (bitv a k)).v))).setCell ⟨(p + 1 + 1), 2, none⟩ (.int .u64 (U (vxor 1 (fx a k) (bitv a k)).x))).cell? ⟨q, o, none⟩ = W.cell? ⟨q, o, none⟩ := fun q o h1 h2 h3 => (z3 q o h3).trans ((y3 q o h2).trans (x3 q o h1))
  have f : ∀ q o, (((W2.setCell ⟨(p + 1 + 1), 0, none⟩ (.int .i64 1)).setCell ⟨(p + 1 + 1), 1, none⟩ (.int .u64 (U (vxor 1 (fx a k) (bitv a k)).v))).setCell ⟨(p + 1 + 1), 2, none⟩ (.int .u64 (U (vxor 1 (fx a k) (bitv a k)).x))).frozen? ⟨q, o, none⟩ = W.frozen? ⟨q, o, none⟩ := fun q o => (z4 q o).trans ((y4 q o).trans (x4 q o))
  exact ⟨(e pa 0 (by omega) (by omega) (by omega)).trans ra0, (e pa 1 (by omega) (by omega) (by omega)).trans ra1, (e pa 2 (by omega) (by omega) (by omega)).trans ra2,
    (z3 p 0 (by omega)).trans ((y3 p 0 (by omega)).trans x0), (z3 p 1 (by omega)).trans ((y3 p 1 (by omega)).trans x1), (z3 p 2 (by omega)).trans ((y3 p 2 (by omega)).trans x2),
    (z3 (p + 1) 0 (by omega)).trans y0, (z3 (p + 1) 1 (by omega)).trans y1, (z3 (p + 1) 2 (by omega)).trans y2, z0, z1, z2,
    fun o => (f p o).trans (rlf o), fun o => (f (p + 1) o).trans (rsf o), fun o => (f (p + 1 + 1) o).trans (rof o), L3⟩
set_option maxRecDepth 100000 in
set_option maxHeartbeats 4000000 in
theorem bitsDual_any (ad : Option Addr) (len cap : Nat) (w : World) (hS : Sl ad len w) {B : Nat} (hG : Glob B w) :
    Calls Tryd.prog 9 #[.slice ad len cap] w fun e w' => e = .returned (.bool true) ∧ Below w.heap.size w w' := by
  have HG := Lib.hid hG
  clear hG
  go_enter Tryd.func9, Tryd.ntmps9
  go_wp2_with fail
  have S0 := hS.str cap _ rfl
  refine (width_any w.heap.size len cap ad 0 (by omega) _ S0).mono ?_
  rintro e w1 ⟨n, ⟨h1, h2⟩, rfl, A1⟩
  obtain ⟨k1, hk1, S1⟩ := A1.st
  have b1 := adv_low A1 ((Below.refl _ _).alloc (Nat.le_refl _) _)
  go_wp2_with fail
  refine (bits_any w.heap.size len cap ad k1 (by omega) n h1 h2 _ S1).mono ?_
  rintro e w2 ⟨a, ha, -, rfl, A2⟩
  obtain ⟨k2, hk2, S2⟩ := A2.st
  have b2 := adv_low A2 b1
  go_wp2_with fail
  refine (bits_any w.heap.size len cap ad k2 (by omega) n h1 h2 _ S2).mono ?_
  rintro e w3 ⟨b, hb, -, rfl, A3⟩
  have b3 := adv_low A3 b2
  have s3 := b3.size
  clear A1 A2 A3 S0 S1 S2
  go_wp2_with fail
  have d1 := dual1 ha hb
  have d2 := dual2 ha hb
  have X : (((w3.alloc (Obj.cells #[Value.int IntKind.i64 n, Value.int IntKind.u64 (U a.v), Value.int IntKind.u64 (U a.x)] 24)).alloc (Obj.cells #[Value.int IntKind.i64 n, Value.int IntKind.u64 (U b.v), Value.int IntKind.u64 (U b.x)] 24)).cell? ⟨w3.heap.size, 0, none⟩ = some (.int .i64 n) ∧ ((w3.alloc (Obj.cells #[Value.int IntKind.i64 n, Value.int IntKind.u64 (U a.v), Value.int IntKind.u64 (U a.x)] 24)).alloc (Obj.cells #[Value.int IntKind.i64 n, Value.int IntKind.u64 (U b.v), Value.int IntKind.u64 (U b.x)] 24)).cell? ⟨w3.heap.size, 1, none⟩ = some (.int .u64 (U a.v)) ∧ ((w3.alloc (Obj.cells #[Value.int IntKind.i64 n, Value.int IntKind.u64 (U a.v), Value.int IntKind.u64 (U a.x)] 24)).alloc (Obj.cells #[Value.int IntKind.i64 n, Value.int IntKind.u64 (U b.v), Value.int IntKind.u64 (U b.x)] 24)).cell? ⟨w3.heap.size, 2, none⟩ = some (.int .u64 (U a.x)) ∧ ((w3.alloc (Obj.cells #[Value.int IntKind.i64 n, Value.int IntKind.u64 (U a.v), Value.int IntKind.u64 (U a.x)] 24)).alloc (Obj.cells #[Value.int IntKind.i64 n, Value.int IntKind.u64 (U b.v), Value.int IntKind.u64 (U b.x)] 24)).cell? ⟨(w3.heap.size + 1), 0, none⟩ = some (.int .i64 n) ∧ ((w3.alloc (Obj.cells #[Value.int IntKind.i64 n, Value.int IntKind.u64 (U a.v), Value.int IntKind.u64 (U a.x)] 24)).alloc (Obj.cells #[Value.int IntKind.i64 n, Value.int IntKind.u64 (U b.v), Value.int IntKind.u64 (U b.x)] 24)).cell? ⟨(w3.heap.size + 1), 1, none⟩ = some (.int .u64 (U b.v)) ∧ ((w3.alloc (Obj.cells #[Value.int IntKind.i64 n, Value.int IntKind.u64 (U a.v), Value.int IntKind.u64 (U a.x)] 24)).alloc (Obj.cells #[Value.int IntKind.i64 n, Value.int IntKind.u64 (U b.v), Value.int IntKind.u64 (U b.x)] 24)).cell? ⟨(w3.heap.size + 1), 2, none⟩ = some (.int .u64 (U b.x)) ∧ Below w.heap.size w ((w3.alloc (Obj.cells #[Value.int IntKind.i64 n, Value.int IntKind.u64 (U a.v), Value.int IntKind.u64 (U a.x)] 24)).alloc (Obj.cells #[Value.int IntKind.i64 n, Value.int IntKind.u64 (U b.v), Value.int IntKind.u64 (U b.x)] 24))) := ⟨by go_simp, by go_simp, by go_simp, by go_simp, by go_simp, by go_simp, by (repeat (first | exact Below.refl _ _ | exact Nat.le_refl _ | refine below_drewN ?_ _ | refine Below.drew ?_ | refine Below.alloc ?_ ?_ _ | refine Below.setCell ?_ ?_ _ | refine below_step (by assumption) ?_ ?_)) <;> (first | omega | (simp <;> omega))⟩
  generalize hxx : ((w3.alloc (Obj.cells #[Value.int IntKind.i64 n, Value.int IntKind.u64 (U a.v), Value.int IntKind.u64 (U a.x)] 24)).alloc (Obj.cells #[Value.int IntKind.i64 n, Value.int IntKind.u64 (U b.v), Value.int IntKind.u64 (U b.x)] 24)) = wx at X ⊢
  clear hxx
  obtain ⟨x0, x1, x2, x3, x4, x5, xl⟩ := X

  go_region_held3 (fun w' => w'.cell? ⟨w3.heap.size, 0, none⟩ = some (.int .i64 n) ∧ w'.cell? ⟨w3.heap.size, 1, none⟩ = some (.int .u64 (U a.v)) ∧ w'.cell? ⟨w3.heap.size, 2, none⟩ = some (.int .u64 (U a.x)) ∧ w'.cell? ⟨(w3.heap.size + 1), 0, none⟩ = some (.int .i64 n) ∧ w'.cell? ⟨(w3.heap.size + 1), 1, none⟩ = some (.int .u64 (U b.v)) ∧ w'.cell? ⟨(w3.heap.size + 1), 2, none⟩ = some (.int .u64 (U b.x)) ∧ Below w.heap.size w w') (first | (exact keep2c (by assumption) (by assumption)) | (exact keep2d (by assumption) (by assumption) (by assumption) (by assumption) (by assumption) (by assumption) (by assumption) (by assumption)) | (refine ⟨?_, ?_, ?_, ?_, ?_, ?_, ?_⟩ <;> first | (go_keep; done) | ((repeat (first | exact Below.refl _ _ | exact Nat.le_refl _ | refine below_drewN ?_ _ | refine Below.drew ?_ | refine Below.alloc ?_ ?_ _ | refine Below.setCell ?_ ?_ _ | refine below_step (by assumption) ?_ ?_)) <;> (first | omega | (simp <;> omega)))))
    (first
      | (go_at_call 49; refine (joined_ok _ (by first | exact HG.out.here (by assumption) | exact (HG.out.here (by assumption)).here ((Below.refl _ _).drew))).mono ?_; rintro e wq ⟨rfl, hq⟩)
      | (go_at_call 51; (with_reducible refine (and_ok n a b _ ha hb).mono ?_); rintro e wq ⟨rfl, hq⟩)
      | (go_at_call 53; (with_reducible refine (xor_ok n a b _ ha hb).mono ?_); rintro e wq ⟨rfl, hq⟩)
      | (go_at_call 53; (with_reducible refine (xor_ok n (vnot n a) b _ (vnot_ok ha) hb).mono ?_); rintro e wq ⟨rfl, hq⟩)
      | (go_at_call 50; (with_reducible refine (not_ok n a _ ha).mono ?_); rintro e wq ⟨rfl, hq⟩)
      | (go_at_call 50; (with_reducible refine (not_ok n b _ hb).mono ?_); rintro e wq ⟨rfl, hq⟩)
      | (go_at_call 50; (with_reducible refine (not_ok n (vand n a b) _ (vand_ok ha)).mono ?_); rintro e wq ⟨rfl, hq⟩)
      | (go_at_call 50; (with_reducible refine (not_ok n (vxor n a b) _ (vxor_ok ha hb)).mono ?_); rintro e wq ⟨rfl, hq⟩)
      | (go_at_call 52; (with_reducible refine (or_ok n (vnot n a) (vnot n b) _ (vnot_ok ha) (vnot_ok hb)).mono ?_); rintro e wq ⟨rfl, hq⟩))
  clear x0 x1 x2 x3 x4 x5 xl d1 d2
  have X3 : (wq.cell? ⟨w3.heap.size, 0, none⟩ = some (.int .i64 n) ∧ wq.cell? ⟨w3.heap.size, 1, none⟩ = some (.int .u64 (U a.v)) ∧ wq.cell? ⟨w3.heap.size, 2, none⟩ = some (.int .u64 (U a.x)) ∧ wq.cell? ⟨(w3.heap.size + 1), 0, none⟩ = some (.int .i64 n) ∧ wq.cell? ⟨(w3.heap.size + 1), 1, none⟩ = some (.int .u64 (U b.v)) ∧ wq.cell? ⟨(w3.heap.size + 1), 2, none⟩ = some (.int .u64 (U b.x)) ∧ Below w.heap.size w wq) := by assumption
  have XX3 := Lib.hid X3
  clear X3
  go_wp2_with fail
  refine (all_1 1 _ (by decide) (by decide)).mono ?_
  rintro e w4 ⟨rfl, hb4⟩
  have XX4 := Lib.hid (keep2c hb4 XX3.out)
  go_wp2_with fail
  refine (all_0 1 _ (by decide) (by decide)).mono ?_
  rintro e w5 ⟨rfl, hb5⟩
  have XX5 := Lib.hid (keep2c hb5 XX4.out)
  go_wp2_with fail
  refine (all_0 1 _ (by decide) (by decide)).mono ?_
  rintro e w6 ⟨rfl, hb6⟩
  have XX6 := Lib.hid (keep2c hb6 XX5.out)
  have h36 : w3.heap.size < w6.heap.size := World.block_lt_of_cell? w6 _ XX6.out.1
  go_wp2_with fail
  have R0 : RS w w3.heap.size w6.heap.size n a 0 (((w6.alloc (Obj.cells #[Value.int IntKind.i64 1, Value.int IntKind.u64 (U (fl 1 1).v), Value.int IntKind.u64 (U (fl 1 1).x)] 24)).alloc (Obj.cells #[Value.int IntKind.i64 1, Value.int IntKind.u64 (U (fl 1 0).v), Value.int IntKind.u64 (U (fl 1 0).x)] 24)).alloc (Obj.cells #[Value.int IntKind.i64 1, Value.int IntKind.u64 (U (fl 1 0).v), Value.int IntKind.u64 (U (fl 1 0).x)] 24)) := by
    have Z := keep2c (w' := (((w6.alloc (Obj.cells #[Value.int IntKind.i64 1, Value.int IntKind.u64 (U (fl 1 1).v), Value.int IntKind.u64 (U (fl 1 1).x)] 24)).alloc (Obj.cells #[Value.int IntKind.i64 1, Value.int IntKind.u64 (U (fl 1 0).v), Value.int IntKind.u64 (U (fl 1 0).x)] 24)).alloc (Obj.cells #[Value.int IntKind.i64 1, Value.int IntKind.u64 (U (fl 1 0).v), Value.int IntKind.u64 (U (fl 1 0).x)] 24))) (hb := (((Below.refl _ _).alloc (Nat.le_refl _) _).alloc (by simp) _).alloc (by simp <;> omega) _) XX6.out
    exact ⟨Z.1, Z.2.1, Z.2.2.1, (by first | (go_simp; done) | (go_simp; rfl)), (by first | (go_simp; done) | (go_simp; rfl)), (by first | (go_simp; done) | (go_simp; rfl)), (by first | (go_simp; done) | (go_simp; rfl)), (by first | (go_simp; done) | (go_simp; rfl)), (by first | (go_simp; done) | (go_simp; rfl)), (by first | (go_simp; done) | (go_simp; rfl)), (by first | (go_simp; done) | (go_simp; rfl)), (by first | (go_simp; done) | (go_simp; rfl)), fun o => by go_simp, fun o => by go_simp, fun o => by go_simp, Z.2.2.2.2.2.2⟩
  clear XX3 XX4 XX5 XX6 hb4 hb5 hb6
  generalize hyy : (((w6.alloc (Obj.cells #[Value.int IntKind.i64 1, Value.int IntKind.u64 (U (fl 1 1).v), Value.int IntKind.u64 (U (fl 1 1).x)] 24)).alloc (Obj.cells #[Value.int IntKind.i64 1, Value.int IntKind.u64 (U (fl 1 0).v), Value.int IntKind.u64 (U (fl 1 0).x)] 24)).alloc (Obj.cells #[Value.int IntKind.i64 1, Value.int IntKind.u64 (U (fl 1 0).v), Value.int IntKind.u64 (U (fl 1 0).x)] 24)) = wy at R0 ⊢
  clear hyy
  go_loopw [52] (fun i wr => ∃ k : Nat, k ≤ n ∧ i = .int .i64 k ∧ RS w w3.heap.size w6.heap.size n a k wr) (fun i _ => n - (intOf i).toNat)
  case atStart => exact ⟨0, Nat.zero_le _, rfl, R0⟩
  case round =>
    obtain ⟨k, hk, rfl, R⟩ := hrel
    have a0 := R.a0
    have a1 := R.a1
    have a2 := R.a2
    by_cases hlt : k < n
    · go_wp2_with fail
      refine (slice_bit n k a _ ha hlt h2).mono ?_
      rintro e w7 ⟨rfl, hb7⟩
      have R7 := R.keep hb7
      clear a0 a1 a2
      go_wp2_with fail
      have Hz : RS w w3.heap.size w6.heap.size n a k (w7.alloc (Obj.cells #[Value.int IntKind.i64 1, Value.int IntKind.u64 (U (bitv a k).v), Value.int IntKind.u64 (U (bitv a k).x)] 24)) ∧ CS w7.heap.size (bitv a k) (w7.alloc (Obj.cells #[Value.int IntKind.i64 1, Value.int IntKind.u64 (U (bitv a k).v), Value.int IntKind.u64 (U (bitv a k).x)] 24)) :=
        ⟨R7.keep ((Below.refl _ _).alloc (Nat.le_refl _) _), ⟨by go_simp, by go_simp, by go_simp⟩⟩
      have hq7 : w6.heap.size + 1 + 1 < w7.heap.size := World.block_lt_of_cell? w7 _ R7.o0
      generalize hzz : (w7.alloc (Obj.cells #[Value.int IntKind.i64 1, Value.int IntKind.u64 (U (bitv a k).v), Value.int IntKind.u64 (U (bitv a k).x)] 24)) = wz at Hz ⊢
      clear hzz R7 R hb7
      refine wp_region_G (fun w' => RS w w3.heap.size w6.heap.size n a k w' ∧ CS w7.heap.size (bitv a k) w') 8 (by kernel_rfl) ?_
      intro C
      have hbz : Below wz.heap.size wz wz.drew := (Below.refl _ _).drew
      replace Hz : RS w w3.heap.size w6.heap.size n a k wz.drew ∧ CS w7.heap.size (bitv a k) wz.drew := ⟨Hz.1.keep hbz, Hz.2.keep hbz⟩
      generalize hzz : wz.drew = wd at Hz ⊢
      clear hzz hbz
      refine wpAnyG_take (i := 0) (oi := { dst := some 58, op := Op.load 24 (Operand.tmp 7), type := 24, pos := "bits.go:36", after := #[], guard := none }) (v := Value.agg #[Value.int IntKind.i64 1, Value.int IntKind.u64 (U (fa a k).v), Value.int IntKind.u64 (U (fa a k).x)]) C rfl (by kernel_rfl) (by kernel_rfl) (by kernel_rfl) (fun l hc h => (hc.step (j := 2) (i := 0) (by kernel_rfl) (hc.step (j := 5) (i := 2) (by kernel_rfl) (hc.step (j := 8) (i := 5) (by kernel_rfl) h)))) (by decide) (of_decide_eq_true (by kernel_rfl)) (fun _ _ _ h => h) (Or.inl ⟨by rfl, fun w' hw' => ?_⟩) Hz ?_
      · have q0 := hw'.1.l0
        have q1 := hw'.1.l1
        have q2 := hw'.1.l2
        go_simp
      clear C
      intro C
      simp only [Act.put, List.setIfInBounds_toArray, List.set_cons_zero, List.set_cons_succ]
      refine wpAnyG_take (i := 1) (oi := { dst := some 59, op := Op.load 24 (Operand.tmp 11), type := 24, pos := "bits.go:36", after := #[], guard := none }) (v := Value.agg #[Value.int IntKind.i64 1, Value.int IntKind.u64 (U (bitv a k).v), Value.int IntKind.u64 (U (bitv a k).x)]) C rfl (by kernel_rfl) (by kernel_rfl) (by kernel_rfl) (fun l hc h => (hc.step (j := 2) (i := 1) (by kernel_rfl) (hc.step (j := 5) (i := 2) (by kernel_rfl) (hc.step (j := 8) (i := 5) (by kernel_rfl) h)))) (by decide) (of_decide_eq_true (by kernel_rfl)) (fun _ _ _ h => h) (Or.inl ⟨by rfl, fun w' hw' => ?_⟩) Hz ?_
      · have q0 := hw'.2.c0
        have q1 := hw'.2.c1
        have q2 := hw'.2.c2
        go_simp
      clear C
      intro C
      simp only [Act.put, List.setIfInBounds_toArray, List.set_cons_zero, List.set_cons_succ]
      refine wpAnyG_take (i := 3) (oi := { dst := some 61, op := Op.load 24 (Operand.tmp 8), type := 24, pos := "bits.go:36", after := #[], guard := none }) (v := Value.agg #[Value.int IntKind.i64 1, Value.int IntKind.u64 (U (fo a k).v), Value.int IntKind.u64 (U (fo a k).x)]) C rfl (by kernel_rfl) (by kernel_rfl) (by kernel_rfl) (fun l hc h => (hc.step (j := 5) (i := 3) (by kernel_rfl) (hc.step (j := 8) (i := 5) (by kernel_rfl) h))) (by decide) (of_decide_eq_true (by kernel_rfl)) (fun _ _ _ h => h) (Or.inl ⟨by rfl, fun w' hw' => ?_⟩) Hz ?_
      · have q0 := hw'.1.s0
        have q1 := hw'.1.s1
        have q2 := hw'.1.s2
        go_simp
      clear C
      intro C
      simp only [Act.put, List.setIfInBounds_toArray, List.set_cons_zero, List.set_cons_succ]
      refine wpAnyG_take (i := 4) (oi := { dst := some 62, op := Op.load 24 (Operand.tmp 11), type := 24, pos := "bits.go:36", after := #[], guard := none }) (v := Value.agg #[Value.int IntKind.i64 1, Value.int IntKind.u64 (U (bitv a k).v), Value.int IntKind.u64 (U (bitv a k).x)]) C rfl (by kernel_rfl) (by kernel_rfl) (by kernel_rfl) (fun l hc h => (hc.step (j := 5) (i := 4) (by kernel_rfl) (hc.step (j := 8) (i := 5) (by kernel_rfl) h))) (by decide) (of_decide_eq_true (by kernel_rfl)) (fun _ _ _ h => h) (Or.inl ⟨by rfl, fun w' hw' => ?_⟩) Hz ?_
      · have q0 := hw'.2.c0
        have q1 := hw'.2.c1
        have q2 := hw'.2.c2
        go_simp
      clear C
      intro C
      simp only [Act.put, List.setIfInBounds_toArray, List.set_cons_zero, List.set_cons_succ]
      refine wpAnyG_take (i := 6) (oi := { dst := some 64, op := Op.load 24 (Operand.tmp 9), type := 24, pos := "bits.go:36", after := #[], guard := none }) (v := Value.agg #[Value.int IntKind.i64 1, Value.int IntKind.u64 (U (fx a k).v), Value.int IntKind.u64 (U (fx a k).x)]) C rfl (by kernel_rfl) (by kernel_rfl) (by kernel_rfl) (fun l hc h => (hc.step (j := 8) (i := 6) (by kernel_rfl) h)) (by decide) (of_decide_eq_true (by kernel_rfl)) (fun _ _ _ h => h) (Or.inl ⟨by rfl, fun w' hw' => ?_⟩) Hz ?_
      · have q0 := hw'.1.o0
        have q1 := hw'.1.o1
        have q2 := hw'.1.o2
        go_simp
      clear C
      intro C
      simp only [Act.put, List.setIfInBounds_toArray, List.set_cons_zero, List.set_cons_succ]
      refine wpAnyG_take (i := 7) (oi := { dst := some 65, op := Op.load 24 (Operand.tmp 11), type := 24, pos := "bits.go:36", after := #[], guard := none }) (v := Value.agg #[Value.int IntKind.i64 1, Value.int IntKind.u64 (U (bitv a k).v), Value.int IntKind.u64 (U (bitv a k).x)]) C rfl (by kernel_rfl) (by kernel_rfl) (by kernel_rfl) (fun l hc h => (hc.step (j := 8) (i := 7) (by kernel_rfl) h)) (by decide) (of_decide_eq_true (by kernel_rfl)) (fun _ _ _ h => h) (Or.inl ⟨by rfl, fun w' hw' => ?_⟩) Hz ?_
      · have q0 := hw'.2.c0
        have q1 := hw'.2.c1
        have q2 := hw'.2.c2
        go_simp
      clear C
      intro C
      simp only [Act.put, List.setIfInBounds_toArray, List.set_cons_zero, List.set_cons_succ]
      replace Hz := Lib.hid Hz
      refine wpAnyG_one (i := 2) (o := { dst := some 60, op := Op.call { callee := Callee.value (Operand.func 51), args := #[Operand.tmp 58, Operand.tmp 59], argTypes := #[24, 24] }, type := 24, pos := "bits.go:36", after := #[{ on := 0, ground := Ground.data }, { on := 1, ground := Ground.data }], guard := none }) C (by kernel_rfl) rfl rfl ?_
      intro K2 hK
      have HK := Lib.hid hK
      clear hK C
      go_wp2_with fail
      refine (and_ok 1 (fa a k) (bitv a k) _ (fa_ok a k) (bitv_ok a k)).mono ?_
      rintro e w8 ⟨rfl, hbw8⟩
      have Hw8 := Lib.hid (show RS w w3.heap.size w6.heap.size n a k w8 ∧ CS w7.heap.size (bitv a k) w8 from ⟨Hz.out.1.keep hbw8, Hz.out.2.keep hbw8⟩)
      refine HK.out _ _ (fun _ => Hw8.out) (fun C => ?_)
      clear HK hbw8 Hz K2
      try simp only [Act.put, List.setIfInBounds_toArray, List.set_cons_zero, List.set_cons_succ]
      refine wpAnyG_one (i := 5) (o := { dst := some 63, op := Op.call { callee := Callee.value (Operand.func 52), args := #[Operand.tmp 61, Operand.tmp 62], argTypes := #[24, 24] }, type := 24, pos := "bits.go:36", after := #[{ on := 3, ground := Ground.data }, { on := 4, ground := Ground.data }, { on := 2, ground := Ground.chain }], guard := none }) C (by kernel_rfl) rfl rfl ?_
      intro K2 hK
      have HK := Lib.hid hK
      clear hK C
      go_wp2_with fail
      refine (or_ok 1 (fo a k) (bitv a k) _ (fo_ok a k) (bitv_ok a k)).mono ?_
      rintro e w9 ⟨rfl, hbw9⟩
      have Hw9 := Lib.hid (show RS w w3.heap.size w6.heap.size n a k w9 ∧ CS w7.heap.size (bitv a k) w9 from ⟨Hw8.out.1.keep hbw9, Hw8.out.2.keep hbw9⟩)
      refine HK.out _ _ (fun _ => Hw9.out) (fun C => ?_)
      clear HK hbw9 Hw8 K2
      try simp only [Act.put, List.setIfInBounds_toArray, List.set_cons_zero, List.set_cons_succ]
      refine wpAnyG_one (i := 8) (o := { dst := some 66, op := Op.call { callee := Callee.value (Operand.func 53), args := #[Operand.tmp 64, Operand.tmp 65], argTypes := #[24, 24] }, type := 24, pos := "bits.go:36", after := #[{ on := 6, ground := Ground.data }, { on := 7, ground := Ground.data }, { on := 5, ground := Ground.chain }], guard := none }) C (by kernel_rfl) rfl rfl ?_
      intro K2 hK
      have HK := Lib.hid hK
      clear hK C
      go_wp2_with fail
      refine (xor_ok 1 (fx a k) (bitv a k) _ (fx_ok a k) (bitv_ok a k)).mono ?_
      rintro e wA ⟨rfl, hbwA⟩
      have HwA := Lib.hid (show RS w w3.heap.size w6.heap.size n a k wA ∧ CS w7.heap.size (bitv a k) wA from ⟨Hw9.out.1.keep hbwA, Hw9.out.2.keep hbwA⟩)
      refine HK.out _ _ (fun _ => HwA.out) (fun C => ?_)
      clear HK hbwA Hw9 K2
      try simp only [Act.put, List.setIfInBounds_toArray, List.set_cons_zero, List.set_cons_succ]
      have rl0 := HwA.out.1.l0
      have rl1 := HwA.out.1.l1
      have rl2 := HwA.out.1.l2
      have rs0 := HwA.out.1.s0
      have rs1 := HwA.out.1.s1
      have rs2 := HwA.out.1.s2
      have ro0 := HwA.out.1.o0
      have ro1 := HwA.out.1.o1
      have ro2 := HwA.out.1.o2
      have rlf := HwA.out.1.lf
      have rsf := HwA.out.1.sf
      have rof := HwA.out.1.of
      have hA7 : w7.heap.size < wA.heap.size := World.block_lt_of_cell? wA _ HwA.out.2.c0
      refine wpAnyG_one (i := 9) (o := { dst := none, op := Op.store 24 (Operand.tmp 7) (Operand.tmp 60), type := 0, pos := "bits.go:36", after := #[{ on := 2, ground := Ground.data }, { on := 8, ground := Ground.chain }, { on := 0, ground := Ground.phase }, { on := 1, ground := Ground.phase }, { on := 2, ground := Ground.phase }, { on := 3, ground := Ground.textOnly Departure.lateStores }, { on := 4, ground := Ground.textOnly Departure.lateStores }, { on := 5, ground := Ground.textOnly Departure.lateStoresUnsure }, { on := 6, ground := Ground.textOnly Departure.lateStores }, { on := 7, ground := Ground.textOnly Departure.lateStores }, { on := 8, ground := Ground.textOnly Departure.lateStoresUnsure }], guard := none }) C (by kernel_rfl) rfl rfl ?_
      intro K2 hK
      have HK := Lib.hid hK
      clear hK C
      go_wp2_with fail
      refine HK.out _ _ (fun h => absurd (show true = false from h) (by decide)) (fun C => ?_)
      clear HK
      try simp only [Act.put, List.setIfInBounds_toArray, List.set_cons_zero, List.set_cons_succ]
      refine wpAnyG_one (i := 10) (o := { dst := none, op := Op.store 24 (Operand.tmp 8) (Operand.tmp 63), type := 0, pos := "bits.go:36", after := #[{ on := 5, ground := Ground.data }, { on := 9, ground := Ground.chain }, { on := 0, ground := Ground.phase }, { on := 1, ground := Ground.phase }, { on := 2, ground := Ground.phase }, { on := 3, ground := Ground.phase }, { on := 4, ground := Ground.phase }, { on := 5, ground := Ground.phase }, { on := 6, ground := Ground.textOnly Departure.lateStores }, { on := 7, ground := Ground.textOnly Departure.lateStores }, { on := 8, ground := Ground.textOnly Departure.lateStoresUnsure }, { on := 9, ground := Ground.phase }], guard := none }) C (by kernel_rfl) rfl rfl ?_
      intro K2 hK
      have HK := Lib.hid hK
      clear hK C
      go_wp2_with fail
      refine HK.out _ _ (fun h => absurd (show true = false from h) (by decide)) (fun C => ?_)
      clear HK
      try simp only [Act.put, List.setIfInBounds_toArray, List.set_cons_zero, List.set_cons_succ]
      refine wpAnyG_one (i := 11) (o := { dst := none, op := Op.store 24 (Operand.tmp 9) (Operand.tmp 66), type := 0, pos := "bits.go:36", after := #[{ on := 8, ground := Ground.data }, { on := 10, ground := Ground.chain }, { on := 0, ground := Ground.phase }, { on := 1, ground := Ground.phase }, { on := 2, ground := Ground.phase }, { on := 3, ground := Ground.phase }, { on := 4, ground := Ground.phase }, { on := 5, ground := Ground.phase }, { on := 6, ground := Ground.phase }, { on := 7, ground := Ground.phase }, { on := 8, ground := Ground.phase }, { on := 9, ground := Ground.phase }, { on := 10, ground := Ground.phase }], guard := none }) C (by kernel_rfl) rfl rfl ?_
      intro K2 hK
      have HK := Lib.hid hK
      clear hK C
      go_wp2_with fail
      refine HK.out _ _ (fun h => absurd (show true = false from h) (by decide)) (fun C => ?_)
      clear HK
      try simp only [Act.put, List.setIfInBounds_toArray, List.set_cons_zero, List.set_cons_succ]
      refine wpAnyG_done (by kernel_rfl) ?_ _
      have T := HwA.out.1.next h36 (by omega)
      clear rl0 rl1 rl2 rs0 rs1 rs2 ro0 ro1 ro2 rlf rsf rof hA7 HwA hq7
      go_wp2_with fail
      go_roundw
      case rel => exact ⟨k + 1, by omega, by first | rfl | (congr 1; omega), T⟩
      case measure => simp [intOf]; omega
    · have hkn : k = n := by omega
      subst hkn
      have a3 := R.l0
      have a4 := R.l1
      have a5 := R.l2
      have b0 := R.s0
      have b1' := R.s1
      have b2' := R.s2
      have c0 := R.o0
      have c1' := R.o1
      have c2' := R.o2
      have hl := R.low
      clear R
      go_wp2_with fail
      go_region_held3 (fun w' => w'.cell? ⟨w3.heap.size, 0, none⟩ = some (.int .i64 k) ∧ w'.cell? ⟨w3.heap.size, 1, none⟩ = some (.int .u64 (U a.v)) ∧ w'.cell? ⟨w3.heap.size, 2, none⟩ = some (.int .u64 (U a.x)) ∧ w'.cell? ⟨w6.heap.size, 0, none⟩ = some (.int .i64 1) ∧ w'.cell? ⟨w6.heap.size, 1, none⟩ = some (.int .u64 (U (fa a k).v)) ∧ w'.cell? ⟨w6.heap.size, 2, none⟩ = some (.int .u64 (U (fa a k).x)) ∧ w'.cell? ⟨(w6.heap.size + 1), 0, none⟩ = some (.int .i64 1) ∧ w'.cell? ⟨(w6.heap.size + 1), 1, none⟩ = some (.int .u64 (U (fo a k).v)) ∧ w'.cell? ⟨(w6.heap.size + 1), 2, none⟩ = some (.int .u64 (U (fo a k).x)) ∧ w'.cell? ⟨(w6.heap.size + 1 + 1), 0, none⟩ = some (.int .i64 1) ∧ w'.cell? ⟨(w6.heap.size + 1 + 1), 1, none⟩ = some (.int .u64 (U (fx a k).v)) ∧ w'.cell? ⟨(w6.heap.size + 1 + 1), 2, none⟩ = some (.int .u64 (U (fx a k).x)) ∧ Below w.heap.size w w') (first | (exact keep4c (by assumption) (by assumption)) | (exact keep4d (by assumption) (by assumption) (by assumption) (by assumption) (by assumption) (by assumption) (by assumption) (by assumption) (by assumption) (by assumption) (by assumption) (by assumption) (by assumption) (by assumption)) | (refine ⟨?_, ?_, ?_, ?_, ?_, ?_, ?_, ?_, ?_, ?_, ?_, ?_, ?_⟩ <;> first | (go_keep; done) | ((repeat (first | exact Below.refl _ _ | exact Nat.le_refl _ | refine below_drewN ?_ _ | refine Below.drew ?_ | refine Below.alloc ?_ ?_ _ | refine Below.setCell ?_ ?_ _ | refine below_step (by assumption) ?_ ?_)) <;> (first | omega | (simp <;> omega)))))
        (first
          | (go_at_call 54; (with_reducible refine (redand_f k a _ ha).mono ?_); rintro e wq ⟨rfl, hq⟩)
          | (go_at_call 55; (with_reducible refine (redor_f k a _ ha).mono ?_); rintro e wq ⟨rfl, hq⟩)
          | (go_at_call 56; (with_reducible refine (redxor_f k a _ ha).mono ?_); rintro e wq ⟨rfl, hq⟩))
      all_goals
        have Hf : (wq.cell? ⟨w3.heap.size, 0, none⟩ = some (.int .i64 k) ∧ wq.cell? ⟨w3.heap.size, 1, none⟩ = some (.int .u64 (U a.v)) ∧ wq.cell? ⟨w3.heap.size, 2, none⟩ = some (.int .u64 (U a.x)) ∧ wq.cell? ⟨w6.heap.size, 0, none⟩ = some (.int .i64 1) ∧ wq.cell? ⟨w6.heap.size, 1, none⟩ = some (.int .u64 (U (fa a k).v)) ∧ wq.cell? ⟨w6.heap.size, 2, none⟩ = some (.int .u64 (U (fa a k).x)) ∧ wq.cell? ⟨(w6.heap.size + 1), 0, none⟩ = some (.int .i64 1) ∧ wq.cell? ⟨(w6.heap.size + 1), 1, none⟩ = some (.int .u64 (U (fo a k).v)) ∧ wq.cell? ⟨(w6.heap.size + 1), 2, none⟩ = some (.int .u64 (U (fo a k).x)) ∧ wq.cell? ⟨(w6.heap.size + 1 + 1), 0, none⟩ = some (.int .i64 1) ∧ wq.cell? ⟨(w6.heap.size + 1 + 1), 1, none⟩ = some (.int .u64 (U (fx a k).v)) ∧ wq.cell? ⟨(w6.heap.size + 1 + 1), 2, none⟩ = some (.int .u64 (U (fx a k).x)) ∧ Below w.heap.size w wq) := by assumption
        go_wp2_with fail
        go_ret
        exact ⟨rfl, Hf.2.2.2.2.2.2.2.2.2.2.2.2⟩
end Go.Proofs.YtkjlhhaiephmdaaDoor
