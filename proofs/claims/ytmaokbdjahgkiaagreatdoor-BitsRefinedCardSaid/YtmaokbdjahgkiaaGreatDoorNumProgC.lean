/- Neg, Add, Sub, Mul, Div and Mod of any vectors. -/
import Derived.Test.YtmaokbdjahgkiaaGreatDoorCmpProg
import Derived.Test.YtmaokbdjahgkiaaGreatDoorNeg
import Derived.Test.YtmaokbdjahgkiaaGreatDoorRelC
import Derived.Lib.QuietBelow
namespace Go.Proofs.YtmaokbdjahgkiaaGreatDoor
open Go Go.RowKit Go.Sort
set_option linter.unusedVariables false
/-- an operation of two vectors of one width, of any vectors -/
def nuR (f : Nat → Vx → Vx → Vx) (a b : Rb) : Rb := if alikeB a b then ⟨a.W, (f a.W.toNat ⟨a.v, a.x⟩ ⟨b.v, b.x⟩).v, (f a.W.toNat ⟨a.v, a.x⟩ ⟨b.v, b.x⟩).x⟩ else ZR
theorem nuR_no {f : Nat → Vx → Vx → Vx} {a b : Rb} (h : alikeB a b = false) : nuR f a b = ZR := by unfold nuR; rw [h]; rfl
theorem nuR_ok {f : Nat → Vx → Vx → Vx} {n : Nat} {av ax bv bx : BitVec 64} (h : alikeB ⟨n, av, ax⟩ ⟨n, bv, bx⟩ = true) : nuR f ⟨n, av, ax⟩ ⟨n, bv, bx⟩ = ⟨n, (f n ⟨av, ax⟩ ⟨bv, bx⟩).v, (f n ⟨av, ax⟩ ⟨bv, bx⟩).x⟩ := by unfold nuR; rw [h]; rfl
set_option maxRecDepth 100000 in
set_option maxHeartbeats 1000000 in
theorem compute_ill (a b : Rb) (fv : Value) (w : World) (h : alikeB a b = false) : Calls Tryz.prog 51 #[.agg #[.int .i64 a.W, .int .u64 (U a.v), .int .u64 (U a.x)], .agg #[.int .i64 b.W, .int .u64 (U b.v), .int .u64 (U b.x)], fv] w fun e w' => e = .returned (.agg #[.int .i64 0, .int .u64 0, .int .u64 0]) ∧ Below w.heap.size w w' := by
  obtain ⟨aW, av, ax⟩ := a
  obtain ⟨bW, bv, bx⟩ := b
  have va := Lib.hid fun w => alike_no ⟨aW, av, ax⟩ ⟨bW, bv, bx⟩ w h
  clear h
  show Calls Tryz.prog 51 #[.agg #[.int .i64 aW, .int .u64 (U av), .int .u64 (U ax)], .agg #[.int .i64 bW, .int .u64 (U bv), .int .u64 (U bx)], fv] w _
  go_enter Tryz.func51, Tryz.ntmps51
  go_wp2_with fail
  have C := tb_new (w := w) ⟨aW, av, ax⟩ ⟨bW, bv, bx⟩
  generalize (((w.alloc (Obj.cells #[Value.int IntKind.i64 aW, Value.int IntKind.u64 (U av), Value.int IntKind.u64 (U ax)] 29)).alloc (Obj.cells #[Value.int IntKind.i64 bW, Value.int IntKind.u64 (U bv), Value.int IntKind.u64 (U bx)] 29)).alloc (Obj.cells #[Value.int IntKind.i64 0, Value.int IntKind.u64 0, Value.int IntKind.u64 0] 29)) = W at C ⊢
  obtain ⟨⟨a0, a1, a2, af⟩, ⟨b0, b1, b2, bf⟩, ⟨p0, p1, p2, pf⟩, lo⟩ := id C
  go_wp2_with fail
  refine (va.out _).mono ?_
  rintro e W1 ⟨rfl, hb⟩
  replace C := C.below hb
  clear a0 a1 a2 af b0 b1 b2 bf p0 p1 p2 pf lo hb
  obtain ⟨⟨a0, a1, a2, af⟩, ⟨b0, b1, b2, bf⟩, ⟨p0, p1, p2, pf⟩, lo⟩ := id C
  go_wp2_with fail
  replace C := C.put 0 0 0
  clear a0 a1 a2 af b0 b1 b2 bf p0 p1 p2 pf lo
  obtain ⟨⟨a0, a1, a2, af⟩, ⟨b0, b1, b2, bf⟩, ⟨p0, p1, p2, pf⟩, lo⟩ := C
  exact bodyPost_ret (v := .agg #[.int .i64 0, .int .u64 0, .int .u64 0]) (by simp [results, Tryz.results51, go_sem, p0, p1, p2]) rfl ⟨rfl, lo⟩
set_option maxRecDepth 100000 in
set_option maxHeartbeats 1000000 in
theorem add_ill (a b : Rb) (w : World) (h : alikeB a b = false) : Calls Tryz.prog 26 #[.agg #[.int .i64 a.W, .int .u64 (U a.v), .int .u64 (U a.x)], .agg #[.int .i64 b.W, .int .u64 (U b.v), .int .u64 (U b.x)]] w fun e w' => e = .returned (.agg #[.int .i64 0, .int .u64 0, .int .u64 0]) ∧ Below w.heap.size w w' := by
  obtain ⟨aW, av, ax⟩ := a
  obtain ⟨bW, bv, bx⟩ := b
  have va := Lib.hid fun fv w => compute_ill ⟨aW, av, ax⟩ ⟨bW, bv, bx⟩ fv w h
  clear h
  show Calls Tryz.prog 26 #[.agg #[.int .i64 aW, .int .u64 (U av), .int .u64 (U ax)], .agg #[.int .i64 bW, .int .u64 (U bv), .int .u64 (U bx)]] w _
  go_enter Tryz.func26, Tryz.ntmps26
  go_wp2_with fail
  have C := tb_new (w := w) ⟨aW, av, ax⟩ ⟨bW, bv, bx⟩
  generalize (((w.alloc (Obj.cells #[Value.int IntKind.i64 aW, Value.int IntKind.u64 (U av), Value.int IntKind.u64 (U ax)] 29)).alloc (Obj.cells #[Value.int IntKind.i64 bW, Value.int IntKind.u64 (U bv), Value.int IntKind.u64 (U bx)] 29)).alloc (Obj.cells #[Value.int IntKind.i64 0, Value.int IntKind.u64 0, Value.int IntKind.u64 0] 29)) = W at C ⊢
  obtain ⟨⟨a0, a1, a2, af⟩, ⟨b0, b1, b2, bf⟩, ⟨p0, p1, p2, pf⟩, lo⟩ := id C
  go_wp2_with fail
  refine (va.out _ _).mono ?_
  rintro e W1 ⟨rfl, hb⟩
  replace C := C.below hb
  clear a0 a1 a2 af b0 b1 b2 bf p0 p1 p2 pf lo hb
  obtain ⟨⟨a0, a1, a2, af⟩, ⟨b0, b1, b2, bf⟩, ⟨p0, p1, p2, pf⟩, lo⟩ := id C
  go_wp2_with fail
  replace C := C.put 0 0 0
  clear a0 a1 a2 af b0 b1 b2 bf p0 p1 p2 pf lo
  obtain ⟨⟨a0, a1, a2, af⟩, ⟨b0, b1, b2, bf⟩, ⟨p0, p1, p2, pf⟩, lo⟩ := C
  exact bodyPost_ret (v := .agg #[.int .i64 0, .int .u64 0, .int .u64 0]) (by simp [results, Tryz.results26, go_sem, p0, p1, p2]) rfl ⟨rfl, lo⟩
theorem add_any (a b : Rb) (w : World) : Calls Tryz.prog 26 #[.agg #[.int .i64 a.W, .int .u64 (U a.v), .int .u64 (U a.x)], .agg #[.int .i64 b.W, .int .u64 (U b.v), .int .u64 (U b.x)]] w fun e w' => e = .returned (.agg #[.int .i64 (nuR (fun n => vop n (· + ·)) a b).W, .int .u64 (U (nuR (fun n => vop n (· + ·)) a b).v), .int .u64 (U (nuR (fun n => vop n (· + ·)) a b).x)]) ∧ Below w.heap.size w w' := by
  cases h : alikeB a b
  · rw [nuR_no h]; exact add_ill a b w h
  · obtain ⟨n, en, em, oa, ob⟩ := alike_of h
    obtain ⟨aW, av, ax⟩ := a
    obtain ⟨bW, bv, bx⟩ := b
    obtain rfl : aW = n := en
    obtain rfl : bW = n := em
    rw [nuR_ok h]; exact add_ok n ⟨av, ax⟩ ⟨bv, bx⟩ w oa ob
set_option maxRecDepth 100000 in
set_option maxHeartbeats 1000000 in
theorem sub_ill (a b : Rb) (w : World) (h : alikeB a b = false) : Calls Tryz.prog 27 #[.agg #[.int .i64 a.W, .int .u64 (U a.v), .int .u64 (U a.x)], .agg #[.int .i64 b.W, .int .u64 (U b.v), .int .u64 (U b.x)]] w fun e w' => e = .returned (.agg #[.int .i64 0, .int .u64 0, .int .u64 0]) ∧ Below w.heap.size w w' := by
  obtain ⟨aW, av, ax⟩ := a
  obtain ⟨bW, bv, bx⟩ := b
  have va := Lib.hid fun fv w => compute_ill ⟨aW, av, ax⟩ ⟨bW, bv, bx⟩ fv w h
  clear h
  show Calls Tryz.prog 27 #[.agg #[.int .i64 aW, .int .u64 (U av), .int .u64 (U ax)], .agg #[.int .i64 bW, .int .u64 (U bv), .int .u64 (U bx)]] w _
  go_enter Tryz.func27, Tryz.ntmps27
  go_wp2_with fail
  have C := tb_new (w := w) ⟨aW, av, ax⟩ ⟨bW, bv, bx⟩
  generalize (((w.alloc (Obj.cells #[Value.int IntKind.i64 aW, Value.int IntKind.u64 (U av), Value.int IntKind.u64 (U ax)] 29)).alloc (Obj.cells #[Value.int IntKind.i64 bW, Value.int IntKind.u64 (U bv), Value.int IntKind.u64 (U bx)] 29)).alloc (Obj.cells #[Value.int IntKind.i64 0, Value.int IntKind.u64 0, Value.int IntKind.u64 0] 29)) = W at C ⊢
  obtain ⟨⟨a0, a1, a2, af⟩, ⟨b0, b1, b2, bf⟩, ⟨p0, p1, p2, pf⟩, lo⟩ := id C
  go_wp2_with fail
  refine (va.out _ _).mono ?_
  rintro e W1 ⟨rfl, hb⟩
  replace C := C.below hb
  clear a0 a1 a2 af b0 b1 b2 bf p0 p1 p2 pf lo hb
  obtain ⟨⟨a0, a1, a2, af⟩, ⟨b0, b1, b2, bf⟩, ⟨p0, p1, p2, pf⟩, lo⟩ := id C
  go_wp2_with fail
  replace C := C.put 0 0 0
  clear a0 a1 a2 af b0 b1 b2 bf p0 p1 p2 pf lo
  obtain ⟨⟨a0, a1, a2, af⟩, ⟨b0, b1, b2, bf⟩, ⟨p0, p1, p2, pf⟩, lo⟩ := C
  exact bodyPost_ret (v := .agg #[.int .i64 0, .int .u64 0, .int .u64 0]) (by simp [results, Tryz.results27, go_sem, p0, p1, p2]) rfl ⟨rfl, lo⟩
theorem sub_any (a b : Rb) (w : World) : Calls Tryz.prog 27 #[.agg #[.int .i64 a.W, .int .u64 (U a.v), .int .u64 (U a.x)], .agg #[.int .i64 b.W, .int .u64 (U b.v), .int .u64 (U b.x)]] w fun e w' => e = .returned (.agg #[.int .i64 (nuR (fun n => vop n (· - ·)) a b).W, .int .u64 (U (nuR (fun n => vop n (· - ·)) a b).v), .int .u64 (U (nuR (fun n => vop n (· - ·)) a b).x)]) ∧ Below w.heap.size w w' := by
  cases h : alikeB a b
  · rw [nuR_no h]; exact sub_ill a b w h
  · obtain ⟨n, en, em, oa, ob⟩ := alike_of h
    obtain ⟨aW, av, ax⟩ := a
    obtain ⟨bW, bv, bx⟩ := b
    obtain rfl : aW = n := en
    obtain rfl : bW = n := em
    rw [nuR_ok h]; exact sub_ok n ⟨av, ax⟩ ⟨bv, bx⟩ w oa ob
set_option maxRecDepth 100000 in
set_option maxHeartbeats 1000000 in
theorem mul_ill (a b : Rb) (w : World) (h : alikeB a b = false) : Calls Tryz.prog 28 #[.agg #[.int .i64 a.W, .int .u64 (U a.v), .int .u64 (U a.x)], .agg #[.int .i64 b.W, .int .u64 (U b.v), .int .u64 (U b.x)]] w fun e w' => e = .returned (.agg #[.int .i64 0, .int .u64 0, .int .u64 0]) ∧ Below w.heap.size w w' := by
  obtain ⟨aW, av, ax⟩ := a
  obtain ⟨bW, bv, bx⟩ := b
  have va := Lib.hid fun fv w => compute_ill ⟨aW, av, ax⟩ ⟨bW, bv, bx⟩ fv w h
  clear h
  show Calls Tryz.prog 28 #[.agg #[.int .i64 aW, .int .u64 (U av), .int .u64 (U ax)], .agg #[.int .i64 bW, .int .u64 (U bv), .int .u64 (U bx)]] w _
  go_enter Tryz.func28, Tryz.ntmps28
  go_wp2_with fail
  have C := tb_new (w := w) ⟨aW, av, ax⟩ ⟨bW, bv, bx⟩
  generalize (((w.alloc (Obj.cells #[Value.int IntKind.i64 aW, Value.int IntKind.u64 (U av), Value.int IntKind.u64 (U ax)] 29)).alloc (Obj.cells #[Value.int IntKind.i64 bW, Value.int IntKind.u64 (U bv), Value.int IntKind.u64 (U bx)] 29)).alloc (Obj.cells #[Value.int IntKind.i64 0, Value.int IntKind.u64 0, Value.int IntKind.u64 0] 29)) = W at C ⊢
  obtain ⟨⟨a0, a1, a2, af⟩, ⟨b0, b1, b2, bf⟩, ⟨p0, p1, p2, pf⟩, lo⟩ := id C
  go_wp2_with fail
  refine (va.out _ _).mono ?_
  rintro e W1 ⟨rfl, hb⟩
  replace C := C.below hb
  clear a0 a1 a2 af b0 b1 b2 bf p0 p1 p2 pf lo hb
  obtain ⟨⟨a0, a1, a2, af⟩, ⟨b0, b1, b2, bf⟩, ⟨p0, p1, p2, pf⟩, lo⟩ := id C
  go_wp2_with fail
  replace C := C.put 0 0 0
  clear a0 a1 a2 af b0 b1 b2 bf p0 p1 p2 pf lo
  obtain ⟨⟨a0, a1, a2, af⟩, ⟨b0, b1, b2, bf⟩, ⟨p0, p1, p2, pf⟩, lo⟩ := C
  exact bodyPost_ret (v := .agg #[.int .i64 0, .int .u64 0, .int .u64 0]) (by simp [results, Tryz.results28, go_sem, p0, p1, p2]) rfl ⟨rfl, lo⟩
theorem mul_any (a b : Rb) (w : World) : Calls Tryz.prog 28 #[.agg #[.int .i64 a.W, .int .u64 (U a.v), .int .u64 (U a.x)], .agg #[.int .i64 b.W, .int .u64 (U b.v), .int .u64 (U b.x)]] w fun e w' => e = .returned (.agg #[.int .i64 (nuR (fun n => vop n (· * ·)) a b).W, .int .u64 (U (nuR (fun n => vop n (· * ·)) a b).v), .int .u64 (U (nuR (fun n => vop n (· * ·)) a b).x)]) ∧ Below w.heap.size w w' := by
  cases h : alikeB a b
  · rw [nuR_no h]; exact mul_ill a b w h
  · obtain ⟨n, en, em, oa, ob⟩ := alike_of h
    obtain ⟨aW, av, ax⟩ := a
    obtain ⟨bW, bv, bx⟩ := b
    obtain rfl : aW = n := en
    obtain rfl : bW = n := em
    rw [nuR_ok h]; exact mul_ok n ⟨av, ax⟩ ⟨bv, bx⟩ w oa ob
set_option maxRecDepth 100000 in
set_option maxHeartbeats 1000000 in
theorem compute_xa (n : Nat) (a b : Vx) (fv : Value) (w : World) (ha : a.ok n) (hb : b.ok n) (hx : (a.x == 0#64) = false) : Calls Tryz.prog 51 #[.agg #[.int .i64 n, .int .u64 (U a.v), .int .u64 (U a.x)], .agg #[.int .i64 n, .int .u64 (U b.v), .int .u64 (U b.x)], fv] w fun e w' => e = .returned (.agg #[.int .i64 n, .int .u64 (U (fl n 3).v), .int .u64 (U (fl n 3).x)]) ∧ Below w.heap.size w w' := by
  obtain ⟨av, ax⟩ := a
  obtain ⟨bv, bx⟩ := b
  have va := Lib.hid fun w => alike_ok n av ax bv bx w ha hb
  have vl9 := Lib.hid fun w => all_x n w ha.lo ha.hi
  have vk := Lib.hid fun w => known_no n ⟨av, ax⟩ w ha hx
  clear ha hb hx
  generalize fl n 3 = P at vl9 ⊢
  show Calls Tryz.prog 51 #[.agg #[.int .i64 n, .int .u64 (U av), .int .u64 (U ax)], .agg #[.int .i64 n, .int .u64 (U bv), .int .u64 (U bx)], fv] w _
  go_enter Tryz.func51, Tryz.ntmps51
  go_wp2_with fail
  have C := tb_new (w := w) ⟨n, av, ax⟩ ⟨n, bv, bx⟩
  generalize (((w.alloc (Obj.cells #[Value.int IntKind.i64 n, Value.int IntKind.u64 (U av), Value.int IntKind.u64 (U ax)] 29)).alloc (Obj.cells #[Value.int IntKind.i64 n, Value.int IntKind.u64 (U bv), Value.int IntKind.u64 (U bx)] 29)).alloc (Obj.cells #[Value.int IntKind.i64 0, Value.int IntKind.u64 0, Value.int IntKind.u64 0] 29)) = W at C ⊢
  obtain ⟨⟨a0, a1, a2, af⟩, ⟨b0, b1, b2, bf⟩, ⟨p0, p1, p2, pf⟩, lo⟩ := id C
  go_wp2_with fail
  refine (va.out _).mono ?_
  rintro e W1 ⟨rfl, hb⟩
  replace C := C.below hb
  clear a0 a1 a2 af b0 b1 b2 bf p0 p1 p2 pf lo hb
  obtain ⟨⟨a0, a1, a2, af⟩, ⟨b0, b1, b2, bf⟩, ⟨p0, p1, p2, pf⟩, lo⟩ := id C
  go_wp2_with fail
  refine (vk.out _).mono ?_
  rintro e W2 ⟨rfl, hb⟩
  replace C := C.below hb
  clear a0 a1 a2 af b0 b1 b2 bf p0 p1 p2 pf lo hb
  obtain ⟨⟨a0, a1, a2, af⟩, ⟨b0, b1, b2, bf⟩, ⟨p0, p1, p2, pf⟩, lo⟩ := id C
  go_wp2_with fail
  refine (vl9.out _).mono ?_
  rintro e W3 ⟨rfl, hb⟩
  replace C := C.below hb
  clear a0 a1 a2 af b0 b1 b2 bf p0 p1 p2 pf lo hb
  obtain ⟨⟨a0, a1, a2, af⟩, ⟨b0, b1, b2, bf⟩, ⟨p0, p1, p2, pf⟩, lo⟩ := id C
  go_wp2_with fail
  replace C := C.put n (U P.v) (U P.x)
  clear a0 a1 a2 af b0 b1 b2 bf p0 p1 p2 pf lo
  obtain ⟨⟨a0, a1, a2, af⟩, ⟨b0, b1, b2, bf⟩, ⟨p0, p1, p2, pf⟩, lo⟩ := C
  exact bodyPost_ret (v := .agg #[.int .i64 n, .int .u64 (U P.v), .int .u64 (U P.x)]) (by simp [results, Tryz.results51, go_sem, p0, p1, p2]) rfl ⟨rfl, lo⟩
set_option maxRecDepth 100000 in
set_option maxHeartbeats 1000000 in
theorem compute_xb (n : Nat) (a b : Vx) (fv : Value) (w : World) (ha : a.ok n) (hb : b.ok n) (hx : (a.x == 0#64) = true) (hy : (b.x == 0#64) = false) : Calls Tryz.prog 51 #[.agg #[.int .i64 n, .int .u64 (U a.v), .int .u64 (U a.x)], .agg #[.int .i64 n, .int .u64 (U b.v), .int .u64 (U b.x)], fv] w fun e w' => e = .returned (.agg #[.int .i64 n, .int .u64 (U (fl n 3).v), .int .u64 (U (fl n 3).x)]) ∧ Below w.heap.size w w' := by
  obtain ⟨av, ax⟩ := a
  obtain ⟨bv, bx⟩ := b
  have va := Lib.hid fun w => alike_ok n av ax bv bx w ha hb
  have vl9 := Lib.hid fun w => all_x n w ha.lo ha.hi
  have vk := Lib.hid fun w => known_yes n ⟨av, ax⟩ w ha hx
  have vj := Lib.hid fun w => known_no n ⟨bv, bx⟩ w hb hy
  clear ha hb hx hy
  generalize fl n 3 = P at vl9 ⊢
  show Calls Tryz.prog 51 #[.agg #[.int .i64 n, .int .u64 (U av), .int .u64 (U ax)], .agg #[.int .i64 n, .int .u64 (U bv), .int .u64 (U bx)], fv] w _
  go_enter Tryz.func51, Tryz.ntmps51
  go_wp2_with fail
  have C := tb_new (w := w) ⟨n, av, ax⟩ ⟨n, bv, bx⟩
  generalize (((w.alloc (Obj.cells #[Value.int IntKind.i64 n, Value.int IntKind.u64 (U av), Value.int IntKind.u64 (U ax)] 29)).alloc (Obj.cells #[Value.int IntKind.i64 n, Value.int IntKind.u64 (U bv), Value.int IntKind.u64 (U bx)] 29)).alloc (Obj.cells #[Value.int IntKind.i64 0, Value.int IntKind.u64 0, Value.int IntKind.u64 0] 29)) = W at C ⊢
  obtain ⟨⟨a0, a1, a2, af⟩, ⟨b0, b1, b2, bf⟩, ⟨p0, p1, p2, pf⟩, lo⟩ := id C
  go_wp2_with fail
  refine (va.out _).mono ?_
  rintro e W1 ⟨rfl, hb⟩
  replace C := C.below hb
  clear a0 a1 a2 af b0 b1 b2 bf p0 p1 p2 pf lo hb
  obtain ⟨⟨a0, a1, a2, af⟩, ⟨b0, b1, b2, bf⟩, ⟨p0, p1, p2, pf⟩, lo⟩ := id C
  go_wp2_with fail
  refine (vk.out _).mono ?_
  rintro e W2 ⟨rfl, hb⟩
  replace C := C.below hb
  clear a0 a1 a2 af b0 b1 b2 bf p0 p1 p2 pf lo hb
  obtain ⟨⟨a0, a1, a2, af⟩, ⟨b0, b1, b2, bf⟩, ⟨p0, p1, p2, pf⟩, lo⟩ := id C
  go_wp2_with fail
  refine (vj.out _).mono ?_
  rintro e W3 ⟨rfl, hb⟩
  replace C := C.below hb
  clear a0 a1 a2 af b0 b1 b2 bf p0 p1 p2 pf lo hb
  obtain ⟨⟨a0, a1, a2, af⟩, ⟨b0, b1, b2, bf⟩, ⟨p0, p1, p2, pf⟩, lo⟩ := id C
  go_wp2_with fail
  refine (vl9.out _).mono ?_
  rintro e W4 ⟨rfl, hb⟩
  replace C := C.below hb
  clear a0 a1 a2 af b0 b1 b2 bf p0 p1 p2 pf lo hb
  obtain ⟨⟨a0, a1, a2, af⟩, ⟨b0, b1, b2, bf⟩, ⟨p0, p1, p2, pf⟩, lo⟩ := id C
  go_wp2_with fail
  replace C := C.put n (U P.v) (U P.x)
  clear a0 a1 a2 af b0 b1 b2 bf p0 p1 p2 pf lo
  obtain ⟨⟨a0, a1, a2, af⟩, ⟨b0, b1, b2, bf⟩, ⟨p0, p1, p2, pf⟩, lo⟩ := C
  exact bodyPost_ret (v := .agg #[.int .i64 n, .int .u64 (U P.v), .int .u64 (U P.x)]) (by simp [results, Tryz.results51, go_sem, p0, p1, p2]) rfl ⟨rfl, lo⟩
structure DX (w : World) (a b : Rb) (s : Bool) (rn rv rx : Int) (W : World) : Prop where
  ba : Box W w.heap.size a.W (U a.v) (U a.x)
  bb : Box W (w.heap.size + 1) b.W (U b.v) (U b.x)
  bs : W.cell? ⟨w.heap.size + 1 + 1, 0, none⟩ = some (.bool s)
  bp : Box W (w.heap.size + 1 + 1 + 1) rn rv rx
  lo : Below w.heap.size w W
theorem DX.below {w : World} {a b : Rb} {s : Bool} {rn rv rx : Int} {W W' : World} (h : DX w a b s rn rv rx W) (hb : Below W.heap.size W W') : DX w a b s rn rv rx W' :=
  ⟨h.ba.below hb, h.bb.below hb, (hb.cell (p := ⟨w.heap.size + 1 + 1, 0, none⟩) (World.block_lt_of_cell? W _ h.bs)).trans h.bs, h.bp.below hb, h.lo.trans (hb.mono h.lo.size)⟩
theorem DX.put {w : World} {a b : Rb} {s : Bool} {rn rv rx : Int} {W : World} (h : DX w a b s rn rv rx W) (n v x : Int) : Below w.heap.size w (((W.setCell ⟨w.heap.size + 1 + 1 + 1, 0, none⟩ (.int .i64 n)).setCell ⟨w.heap.size + 1 + 1 + 1, 1, none⟩ (.int .u64 v)).setCell ⟨w.heap.size + 1 + 1 + 1, 2, none⟩ (.int .u64 x)) ∧ Box (((W.setCell ⟨w.heap.size + 1 + 1 + 1, 0, none⟩ (.int .i64 n)).setCell ⟨w.heap.size + 1 + 1 + 1, 1, none⟩ (.int .u64 v)).setCell ⟨w.heap.size + 1 + 1 + 1, 2, none⟩ (.int .u64 x)) (w.heap.size + 1 + 1 + 1) n v x :=
  ⟨((h.lo.setCell (by show w.heap.size ≤ w.heap.size + 1 + 1 + 1; omega) _).setCell (by show w.heap.size ≤ w.heap.size + 1 + 1 + 1; omega) _).setCell (by show w.heap.size ≤ w.heap.size + 1 + 1 + 1; omega) _, h.bp.set _ _ _⟩
theorem dx_new {w : World} (a b : Rb) (s : Bool) : DX w a b s 0 0 0 ((((w.alloc (bObj a)).alloc (bObj b)).alloc (Obj.cells #[.bool s] 4)).alloc zObj) :=
  ⟨⟨by go_simp, by go_simp, by go_simp, fun o => by go_simp⟩, ⟨by go_simp, by go_simp, by go_simp, fun o => by go_simp⟩, by go_simp, ⟨by go_simp, by go_simp, by go_simp, fun o => by go_simp⟩, ((((Below.refl _ _).alloc (Nat.le_refl _) _).alloc (by simp) _).alloc (by simp; omega) _).alloc (by simp; omega) _⟩
set_option maxRecDepth 100000 in
set_option maxHeartbeats 1000000 in
theorem of_out (W0 : Int) (v : BitVec 64) (w : World) (h : ¬ (1 ≤ W0 ∧ W0 ≤ 64)) : Calls Tryz.prog 50 #[.int .i64 W0, .int .u64 (U v)] w fun e w' => e = .returned (.agg #[.int .i64 0, .int .u64 0, .int .u64 0]) ∧ Below w.heap.size w w' := by
  by_cases h1 : W0 < 1
  · clear h
    go_enter Tryz.func50, Tryz.ntmps50
    go_wp2_with fail
    exact bodyPost_ret (v := .agg #[.int .i64 0, .int .u64 0, .int .u64 0]) (by simp [results, Tryz.results50, go_sem]) rfl ⟨rfl, (by (repeat (first | (with_reducible exact Below.refl _ _) | (with_reducible exact Nat.le_refl _) | (with_reducible refine Below.setCell ?_ ?_ _) | (with_reducible refine Below.alloc ?_ ?_ _) | (with_reducible refine Below.drew ?_))) <;> (first | omega | (simp <;> omega)))⟩
  · have h2 : 64 < W0 := by omega
    clear h
    go_enter Tryz.func50, Tryz.ntmps50
    go_wp2_with fail
    exact bodyPost_ret (v := .agg #[.int .i64 0, .int .u64 0, .int .u64 0]) (by simp [results, Tryz.results50, go_sem]) rfl ⟨rfl, (by (repeat (first | (with_reducible exact Below.refl _ _) | (with_reducible exact Nat.le_refl _) | (with_reducible refine Below.setCell ?_ ?_ _) | (with_reducible refine Below.alloc ?_ ?_ _) | (with_reducible refine Below.drew ?_))) <;> (first | omega | (simp <;> omega)))⟩
theorem of_any (W0 : Int) (w : World) : ∃ r : Rb, ∀ w, Calls Tryz.prog 50 #[.int .i64 W0, .int .u64 0] w fun e w' => e = .returned (.agg #[.int .i64 r.W, .int .u64 (U r.v), .int .u64 (U r.x)]) ∧ Below w.heap.size w w' := by
  have u0 : U 0#64 = 0 := by decide
  by_cases h : 1 ≤ W0 ∧ W0 ≤ 64
  · obtain ⟨n, rfl⟩ : ∃ n : Nat, W0 = n := ⟨W0.toNat, by omega⟩
    exact ⟨⟨n, (kv n 0#64).v, (kv n 0#64).x⟩, fun w => of_zero n w (by omega) (by omega)⟩
  · refine ⟨ZR, fun w => ?_⟩
    have := of_out W0 0#64 w h
    rw [u0] at this
    simp only [ZR, u0]
    exact this
set_option maxRecDepth 100000 in
set_option maxHeartbeats 1000000 in
theorem neg_ill (a : Rb) (w : World) (h : a.okB = false) : Calls Tryz.prog 25 #[.agg #[.int .i64 a.W, .int .u64 (U a.v), .int .u64 (U a.x)]] w fun e w' => e = .returned (.agg #[.int .i64 0, .int .u64 0, .int .u64 0]) ∧ Below w.heap.size w w' := by
  obtain ⟨aW, av, ax⟩ := a
  obtain ⟨r, hr0⟩ := of_any aW w
  have hr := Lib.hid hr0
  have hal : alikeB r ⟨aW, av, ax⟩ = false := by unfold alikeB; rw [h, Bool.and_false, Bool.false_and]
  have vs := Lib.hid fun w => sub_ill r ⟨aW, av, ax⟩ w hal
  clear h hal hr0
  show Calls Tryz.prog 25 #[.agg #[.int .i64 aW, .int .u64 (U av), .int .u64 (U ax)]] w _
  go_enter Tryz.func25, Tryz.ntmps25
  go_wp2_with fail
  have C := sb_new (w := w) ⟨aW, av, ax⟩
  generalize ((w.alloc (Obj.cells #[Value.int IntKind.i64 aW, Value.int IntKind.u64 (U av), Value.int IntKind.u64 (U ax)] 29)).alloc (Obj.cells #[Value.int IntKind.i64 0, Value.int IntKind.u64 0, Value.int IntKind.u64 0] 29)) = W at C ⊢
  obtain ⟨⟨a0, a1, a2, af⟩, ⟨p0, p1, p2, pf⟩, lo⟩ := id C
  go_wp2_with fail
  have ga0 := cell_regrown a0
  have ga1 := cell_regrown a1
  have ga2 := cell_regrown a2
  refine wp_region_rel 5 (by kernel_rfl) (by kernel_rfl) ?_
  simp only [List.take_succ_cons, List.take_zero, List.drop_succ_cons, List.drop_zero]
  (refine rel_fix0 (fun K hK => ?_); go_simp; refine hK _ ?_; clear hK K)
  (refine rel_fix0 (fun K hK => ?_); go_simp; refine hK _ ?_; clear hK K)
  (refine rel_fix0 (fun K hK => ?_); go_simp; apply Exists.intro; refine ⟨fun _ _ => ?_, hK _ ?_⟩; (with_reducible exact ret_fix (hr.out _)); clear hK K)
  (refine rel_fix0 (fun K hK => ?_); go_simp; refine hK _ ?_; clear hK K)
  (refine rel_fix0 (fun K hK => ?_); go_simp; apply Exists.intro; refine ⟨fun _ _ => ?_, hK _ ?_⟩; (with_reducible exact ret_fix (vs.out _)); clear hK K)
  refine rel_nil ?_
  intro d os
  simp only [relAll]
  clear ga0 ga1 ga2
  clear a0 a1 a2 af p0 p1 p2 pf lo
  replace C := C.below (below_regrown _ d os)
  generalize grow (redrawn _ d) os = W9 at C ⊢
  obtain ⟨⟨a0, a1, a2, af⟩, ⟨p0, p1, p2, pf⟩, lo⟩ := id C
  go_wp2_with fail
  replace C := C.put 0 0 0
  clear a0 a1 a2 af p0 p1 p2 pf lo
  obtain ⟨⟨a0, a1, a2, af⟩, ⟨p0, p1, p2, pf⟩, lo⟩ := C
  exact bodyPost_ret (v := .agg #[.int .i64 0, .int .u64 0, .int .u64 0]) (by simp [results, Tryz.results25, go_sem, p0, p1, p2]) rfl ⟨rfl, lo⟩
/-- the negative of any vector -/
def negR (a : Rb) : Rb := if a.okB then ⟨a.W, (vneg a.W.toNat ⟨a.v, a.x⟩).v, (vneg a.W.toNat ⟨a.v, a.x⟩).x⟩ else ZR
theorem neg_any (a : Rb) (w : World) : Calls Tryz.prog 25 #[.agg #[.int .i64 a.W, .int .u64 (U a.v), .int .u64 (U a.x)]] w fun e w' => e = .returned (.agg #[.int .i64 (negR a).W, .int .u64 (U (negR a).v), .int .u64 (U (negR a).x)]) ∧ Below w.heap.size w w' := by
  cases h : a.okB
  · have e : negR a = ZR := by unfold negR; rw [h]; rfl
    rw [e]; exact neg_ill a w h
  · obtain ⟨n, en, o⟩ := Rb.ok_of h
    obtain ⟨aW, av, ax⟩ := a
    obtain rfl : aW = n := en
    have e : negR ⟨n, av, ax⟩ = ⟨n, (vneg n ⟨av, ax⟩).v, (vneg n ⟨av, ax⟩).x⟩ := by unfold negR; rw [h]; rfl
    rw [e]; exact neg_ok n ⟨av, ax⟩ w o
end Go.Proofs.YtmaokbdjahgkiaaGreatDoor
