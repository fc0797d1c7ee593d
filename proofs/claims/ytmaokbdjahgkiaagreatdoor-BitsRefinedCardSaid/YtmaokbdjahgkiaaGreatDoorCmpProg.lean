/- Eq, Ne, CaseEq, CaseNe, Lt and Le of any vectors. -/
import Derived.Test.YtmaokbdjahgkiaaGreatDoorTwo
import Derived.Test.YtmaokbdjahgkiaaGreatDoorPair
import Derived.Test.YtmaokbdjahgkiaaGreatDoorOrder
namespace Go.Proofs.YtmaokbdjahgkiaaGreatDoor
open Go Go.RowKit Go.Sort
set_option linter.unusedVariables false
set_option maxRecDepth 100000 in
set_option maxHeartbeats 1000000 in
theorem redor_ill (a : Rb) (w : World) (h : a.okB = false) : Calls Tryz.prog 20 #[.agg #[.int .i64 a.W, .int .u64 (U a.v), .int .u64 (U a.x)]] w fun e w' => e = .returned (.agg #[.int .i64 0, .int .u64 0, .int .u64 0]) ∧ Below w.heap.size w w' := by
  obtain ⟨aW, av, ax⟩ := a
  have va := Lib.hid fun w => valid_no aW av ax w h
  clear h
  show Calls Tryz.prog 20 #[.agg #[.int .i64 aW, .int .u64 (U av), .int .u64 (U ax)]] w _
  go_enter Tryz.func20, Tryz.ntmps20
  go_wp2_with fail
  have C := sb_new (w := w) ⟨aW, av, ax⟩
  generalize ((w.alloc (Obj.cells #[Value.int IntKind.i64 aW, Value.int IntKind.u64 (U av), Value.int IntKind.u64 (U ax)] 29)).alloc (Obj.cells #[Value.int IntKind.i64 0, Value.int IntKind.u64 0, Value.int IntKind.u64 0] 29)) = W at C ⊢
  obtain ⟨⟨a0, a1, a2, af⟩, ⟨p0, p1, p2, pf⟩, lo⟩ := id C
  go_wp2_with fail
  refine (va.out _).mono ?_
  rintro e W1 ⟨rfl, hb⟩
  replace C := C.below hb
  clear a0 a1 a2 af p0 p1 p2 pf lo hb
  obtain ⟨⟨a0, a1, a2, af⟩, ⟨p0, p1, p2, pf⟩, lo⟩ := id C
  go_wp2_with fail
  replace C := C.put 0 0 0
  clear a0 a1 a2 af p0 p1 p2 pf lo
  obtain ⟨⟨a0, a1, a2, af⟩, ⟨p0, p1, p2, pf⟩, lo⟩ := C
  exact bodyPost_ret (v := .agg #[.int .i64 0, .int .u64 0, .int .u64 0]) (by simp [results, Tryz.results20, go_sem, p0, p1, p2]) rfl ⟨rfl, lo⟩
set_option maxRecDepth 100000 in
set_option maxHeartbeats 1000000 in
theorem vnot_ill (a : Rb) (w : World) (h : a.okB = false) : Calls Tryz.prog 15 #[.agg #[.int .i64 a.W, .int .u64 (U a.v), .int .u64 (U a.x)]] w fun e w' => e = .returned (.agg #[.int .i64 0, .int .u64 0, .int .u64 0]) ∧ Below w.heap.size w w' := by
  obtain ⟨aW, av, ax⟩ := a
  have va := Lib.hid fun w => valid_no aW av ax w h
  clear h
  show Calls Tryz.prog 15 #[.agg #[.int .i64 aW, .int .u64 (U av), .int .u64 (U ax)]] w _
  go_enter Tryz.func15, Tryz.ntmps15
  go_wp2_with fail
  have C := sb_new (w := w) ⟨aW, av, ax⟩
  generalize ((w.alloc (Obj.cells #[Value.int IntKind.i64 aW, Value.int IntKind.u64 (U av), Value.int IntKind.u64 (U ax)] 29)).alloc (Obj.cells #[Value.int IntKind.i64 0, Value.int IntKind.u64 0, Value.int IntKind.u64 0] 29)) = W at C ⊢
  obtain ⟨⟨a0, a1, a2, af⟩, ⟨p0, p1, p2, pf⟩, lo⟩ := id C
  go_wp2_with fail
  refine (va.out _).mono ?_
  rintro e W1 ⟨rfl, hb⟩
  replace C := C.below hb
  clear a0 a1 a2 af p0 p1 p2 pf lo hb
  obtain ⟨⟨a0, a1, a2, af⟩, ⟨p0, p1, p2, pf⟩, lo⟩ := id C
  go_wp2_with fail
  replace C := C.put 0 0 0
  clear a0 a1 a2 af p0 p1 p2 pf lo
  obtain ⟨⟨a0, a1, a2, af⟩, ⟨p0, p1, p2, pf⟩, lo⟩ := C
  exact bodyPost_ret (v := .agg #[.int .i64 0, .int .u64 0, .int .u64 0]) (by simp [results, Tryz.results15, go_sem, p0, p1, p2]) rfl ⟨rfl, lo⟩
set_option maxRecDepth 100000 in
set_option maxHeartbeats 1000000 in
theorem lnot_ill (a : Rb) (w : World) (h : a.okB = false) : Calls Tryz.prog 22 #[.agg #[.int .i64 a.W, .int .u64 (U a.v), .int .u64 (U a.x)]] w fun e w' => e = .returned (.agg #[.int .i64 0, .int .u64 0, .int .u64 0]) ∧ Below w.heap.size w w' := by
  obtain ⟨aW, av, ax⟩ := a
  have va := Lib.hid fun w => redor_ill ⟨aW, av, ax⟩ w h
  have vb := Lib.hid fun w => vnot_ill ZR w rfl
  clear h
  have uz : U 0#64 = 0 := by decide
  simp only [ZR, uz] at vb
  show Calls Tryz.prog 22 #[.agg #[.int .i64 aW, .int .u64 (U av), .int .u64 (U ax)]] w _
  go_enter Tryz.func22, Tryz.ntmps22
  go_wp2_with fail
  have C := sb_new (w := w) ⟨aW, av, ax⟩
  generalize ((w.alloc (Obj.cells #[Value.int IntKind.i64 aW, Value.int IntKind.u64 (U av), Value.int IntKind.u64 (U ax)] 29)).alloc (Obj.cells #[Value.int IntKind.i64 0, Value.int IntKind.u64 0, Value.int IntKind.u64 0] 29)) = W at C ⊢
  obtain ⟨⟨a0, a1, a2, af⟩, ⟨p0, p1, p2, pf⟩, lo⟩ := id C
  go_wp2_with fail
  refine (va.out _).mono ?_
  rintro e W1 ⟨rfl, hb⟩
  replace C := C.below hb
  clear a0 a1 a2 af p0 p1 p2 pf lo hb
  obtain ⟨⟨a0, a1, a2, af⟩, ⟨p0, p1, p2, pf⟩, lo⟩ := id C
  go_wp2_with fail
  refine (vb.out _).mono ?_
  rintro e W2 ⟨rfl, hb⟩
  replace C := C.below hb
  clear a0 a1 a2 af p0 p1 p2 pf lo hb
  obtain ⟨⟨a0, a1, a2, af⟩, ⟨p0, p1, p2, pf⟩, lo⟩ := id C
  go_wp2_with fail
  replace C := C.put 0 0 0
  clear a0 a1 a2 af p0 p1 p2 pf lo
  obtain ⟨⟨a0, a1, a2, af⟩, ⟨p0, p1, p2, pf⟩, lo⟩ := C
  exact bodyPost_ret (v := .agg #[.int .i64 0, .int .u64 0, .int .u64 0]) (by simp [results, Tryz.results22, go_sem, p0, p1, p2]) rfl ⟨rfl, lo⟩
/-- LNot of any vector -/
def lnotR (r : Rb) : Rb := if r.okB then ⟨1, (vlnot ⟨r.v, r.x⟩).v, (vlnot ⟨r.v, r.x⟩).x⟩ else ZR
theorem lnot_any (r : Rb) (w : World) : Calls Tryz.prog 22 #[.agg #[.int .i64 r.W, .int .u64 (U r.v), .int .u64 (U r.x)]] w fun e w' => e = .returned (.agg #[.int .i64 (lnotR r).W, .int .u64 (U (lnotR r).v), .int .u64 (U (lnotR r).x)]) ∧ Below w.heap.size w w' := by
  cases h : r.okB
  · have e : lnotR r = ZR := by unfold lnotR; rw [h]; rfl
    rw [e]; exact lnot_ill r w h
  · obtain ⟨n, en, o⟩ := Rb.ok_of h
    have e : lnotR r = ⟨1, (vlnot ⟨r.v, r.x⟩).v, (vlnot ⟨r.v, r.x⟩).x⟩ := by unfold lnotR; rw [h]; rfl
    rw [e, en]; exact lnot_ok n ⟨r.v, r.x⟩ w o
/-- what a comparison makes of any vectors -/
def cmR (f : Vx → Vx → Vx) (a b : Rb) : Rb := if alikeB a b then ⟨1, (f ⟨a.v, a.x⟩ ⟨b.v, b.x⟩).v, (f ⟨a.v, a.x⟩ ⟨b.v, b.x⟩).x⟩ else ZR
theorem alike_of {a b : Rb} (h : alikeB a b = true) : ∃ n : Nat, a.W = n ∧ b.W = n ∧ Ok n a.v a.x ∧ Ok n b.v b.x := by
  unfold alikeB at h
  rw [Bool.and_eq_true, Bool.and_eq_true, decide_eq_true_eq] at h
  obtain ⟨n, en, o⟩ := Rb.ok_of h.1.1
  obtain ⟨m, em, p⟩ := Rb.ok_of h.1.2
  have : n = m := by have := h.2; omega
  subst this
  exact ⟨n, en, em, o, p⟩
def vceq (a b : Vx) : Vx := tr (a.v == b.v && a.x == b.x)
set_option maxRecDepth 100000 in
set_option maxHeartbeats 1000000 in
theorem eq_ill (a b : Rb) (w : World) (h : alikeB a b = false) : Calls Tryz.prog 32 #[.agg #[.int .i64 a.W, .int .u64 (U a.v), .int .u64 (U a.x)], .agg #[.int .i64 b.W, .int .u64 (U b.v), .int .u64 (U b.x)]] w fun e w' => e = .returned (.agg #[.int .i64 0, .int .u64 0, .int .u64 0]) ∧ Below w.heap.size w w' := by
  obtain ⟨aW, av, ax⟩ := a
  obtain ⟨bW, bv, bx⟩ := b
  have va := Lib.hid fun w => alike_no ⟨aW, av, ax⟩ ⟨bW, bv, bx⟩ w h
  clear h
  show Calls Tryz.prog 32 #[.agg #[.int .i64 aW, .int .u64 (U av), .int .u64 (U ax)], .agg #[.int .i64 bW, .int .u64 (U bv), .int .u64 (U bx)]] w _
  go_enter Tryz.func32, Tryz.ntmps32
  go_wp2_with fail
  have C := tb_new (w := w) ⟨aW, av, ax⟩ ⟨bW, bv, bx⟩
  generalize (((w.alloc (Obj.cells #[Value.int IntKind.i64 aW, Value.int IntKind.u64 (U av), Value.int IntKind.u64 (U ax)] 29)).alloc (Obj.cells #[Value.int IntKind.i64 bW, Value.int IntKind.u64 (U bv), Value.int IntKind.u64 (U bx)] 29)).alloc (Obj.cells #[Value.int IntKind.i64 0, Value.int IntKind.u64 0, Value.int IntKind.u64 0] 29)) = W at C ⊢
  obtain ⟨⟨a0, a1, a2, af⟩, ⟨b0, b1, b2, bf⟩, ⟨p0, p1, p2, pf⟩, lo⟩ := id C
  go_wp2_with fail
  refine (va.out _).mono ?_
  rintro e W1 ⟨rfl, hb⟩
  replace C := C.below hb
  clear a0 a1 a2 af b0 b1 b2 bf p0 p1 p2 pf lo hb
  obtain ⟨⟨a0, a1, a2, af⟩, ⟨b0, b1, b2, bf⟩, ⟨p0, p1, p2, pf⟩, lo⟩ := id C
  go_wp2_with fail
  replace C := C.put 0 0 0
  clear a0 a1 a2 af b0 b1 b2 bf p0 p1 p2 pf lo
  obtain ⟨⟨a0, a1, a2, af⟩, ⟨b0, b1, b2, bf⟩, ⟨p0, p1, p2, pf⟩, lo⟩ := C
  exact bodyPost_ret (v := .agg #[.int .i64 0, .int .u64 0, .int .u64 0]) (by simp [results, Tryz.results32, go_sem, p0, p1, p2]) rfl ⟨rfl, lo⟩
set_option maxRecDepth 100000 in
set_option maxHeartbeats 1000000 in
theorem lt_ill (a b : Rb) (s : Bool) (w : World) (h : alikeB a b = false) : Calls Tryz.prog 34 #[.agg #[.int .i64 a.W, .int .u64 (U a.v), .int .u64 (U a.x)], .agg #[.int .i64 b.W, .int .u64 (U b.v), .int .u64 (U b.x)], .bool s] w fun e w' => e = .returned (.agg #[.int .i64 0, .int .u64 0, .int .u64 0]) ∧ Below w.heap.size w w' := by
  obtain ⟨aW, av, ax⟩ := a
  obtain ⟨bW, bv, bx⟩ := b
  have va := Lib.hid fun w => alike_no ⟨aW, av, ax⟩ ⟨bW, bv, bx⟩ w h
  clear h
  show Calls Tryz.prog 34 #[.agg #[.int .i64 aW, .int .u64 (U av), .int .u64 (U ax)], .agg #[.int .i64 bW, .int .u64 (U bv), .int .u64 (U bx)], .bool s] w _
  go_enter Tryz.func34, Tryz.ntmps34
  go_wp2_with fail
  have C := tb_new (w := w) ⟨aW, av, ax⟩ ⟨bW, bv, bx⟩
  generalize (((w.alloc (Obj.cells #[Value.int IntKind.i64 aW, Value.int IntKind.u64 (U av), Value.int IntKind.u64 (U ax)] 29)).alloc (Obj.cells #[Value.int IntKind.i64 bW, Value.int IntKind.u64 (U bv), Value.int IntKind.u64 (U bx)] 29)).alloc (Obj.cells #[Value.int IntKind.i64 0, Value.int IntKind.u64 0, Value.int IntKind.u64 0] 29)) = W at C ⊢
  obtain ⟨⟨a0, a1, a2, af⟩, ⟨b0, b1, b2, bf⟩, ⟨p0, p1, p2, pf⟩, lo⟩ := id C
  go_wp2_with fail
  refine (va.out _).mono ?_
  rintro e W1 ⟨rfl, hb⟩
  replace C := C.below hb
  clear a0 a1 a2 af b0 b1 b2 bf p0 p1 p2 pf lo hb
  obtain ⟨⟨a0, a1, a2, af⟩, ⟨b0, b1, b2, bf⟩, ⟨p0, p1, p2, pf⟩, lo⟩ := id C
  go_wp2_with fail
  replace C := C.put 0 0 0
  clear a0 a1 a2 af b0 b1 b2 bf p0 p1 p2 pf lo
  obtain ⟨⟨a0, a1, a2, af⟩, ⟨b0, b1, b2, bf⟩, ⟨p0, p1, p2, pf⟩, lo⟩ := C
  exact bodyPost_ret (v := .agg #[.int .i64 0, .int .u64 0, .int .u64 0]) (by simp [results, Tryz.results34, go_sem, p0, p1, p2]) rfl ⟨rfl, lo⟩
theorem eq_any (a b : Rb) (w : World) : Calls Tryz.prog 32 #[.agg #[.int .i64 a.W, .int .u64 (U a.v), .int .u64 (U a.x)], .agg #[.int .i64 b.W, .int .u64 (U b.v), .int .u64 (U b.x)]] w fun e w' => e = .returned (.agg #[.int .i64 (cmR veq a b).W, .int .u64 (U (cmR veq a b).v), .int .u64 (U (cmR veq a b).x)]) ∧ Below w.heap.size w w' := by
  cases h : alikeB a b
  · have e : cmR veq a b = ZR := by unfold cmR; rw [h]; rfl
    rw [e]; exact eq_ill a b w h
  · have e : cmR veq a b = ⟨1, (veq ⟨a.v, a.x⟩ ⟨b.v, b.x⟩).v, (veq ⟨a.v, a.x⟩ ⟨b.v, b.x⟩).x⟩ := by unfold cmR; rw [h]; rfl
    rw [e]
    obtain ⟨n, en, em, oa, ob⟩ := alike_of h
    obtain ⟨aW, av, ax⟩ := a
    obtain ⟨bW, bv, bx⟩ := b
    obtain rfl : aW = n := en
    obtain rfl : bW = n := em
    exact eq_ok n ⟨av, ax⟩ ⟨bv, bx⟩ w oa ob
theorem lt_any (a b : Rb) (s : Bool) (w : World) : Calls Tryz.prog 34 #[.agg #[.int .i64 a.W, .int .u64 (U a.v), .int .u64 (U a.x)], .agg #[.int .i64 b.W, .int .u64 (U b.v), .int .u64 (U b.x)], .bool s] w fun e w' => e = .returned (.agg #[.int .i64 (cmR (vlt a.W.toNat s) a b).W, .int .u64 (U (cmR (vlt a.W.toNat s) a b).v), .int .u64 (U (cmR (vlt a.W.toNat s) a b).x)]) ∧ Below w.heap.size w w' := by
  cases h : alikeB a b
  · have e : cmR (vlt a.W.toNat s) a b = ZR := by unfold cmR; rw [h]; rfl
    rw [e]; exact lt_ill a b s w h
  · have e : cmR (vlt a.W.toNat s) a b = ⟨1, ((vlt a.W.toNat s) ⟨a.v, a.x⟩ ⟨b.v, b.x⟩).v, ((vlt a.W.toNat s) ⟨a.v, a.x⟩ ⟨b.v, b.x⟩).x⟩ := by unfold cmR; rw [h]; rfl
    rw [e]
    obtain ⟨n, en, em, oa, ob⟩ := alike_of h
    obtain ⟨aW, av, ax⟩ := a
    obtain ⟨bW, bv, bx⟩ := b
    obtain rfl : aW = n := en
    obtain rfl : bW = n := em
    exact lt_ok n ⟨av, ax⟩ ⟨bv, bx⟩ s w oa ob
set_option maxRecDepth 100000 in
set_option maxHeartbeats 1000000 in
theorem ne_any (a b : Rb) (w : World) : Calls Tryz.prog 33 #[.agg #[.int .i64 a.W, .int .u64 (U a.v), .int .u64 (U a.x)], .agg #[.int .i64 b.W, .int .u64 (U b.v), .int .u64 (U b.x)]] w fun e w' => e = .returned (.agg #[.int .i64 (lnotR (cmR veq a b)).W, .int .u64 (U (lnotR (cmR veq a b)).v), .int .u64 (U (lnotR (cmR veq a b)).x)]) ∧ Below w.heap.size w w' := by
  obtain ⟨aW, av, ax⟩ := a
  obtain ⟨bW, bv, bx⟩ := b
  have va := Lib.hid fun w => eq_any ⟨aW, av, ax⟩ ⟨bW, bv, bx⟩ w
  generalize cmR _ _ _ = P at va ⊢
  have vb := Lib.hid fun w => lnot_any P w
  generalize lnotR P = Q at vb ⊢
  show Calls Tryz.prog 33 #[.agg #[.int .i64 aW, .int .u64 (U av), .int .u64 (U ax)], .agg #[.int .i64 bW, .int .u64 (U bv), .int .u64 (U bx)]] w _
  go_enter Tryz.func33, Tryz.ntmps33
  go_wp2_with fail
  have C := tb_new (w := w) ⟨aW, av, ax⟩ ⟨bW, bv, bx⟩
  generalize (((w.alloc (Obj.cells #[Value.int IntKind.i64 aW, Value.int IntKind.u64 (U av), Value.int IntKind.u64 (U ax)] 29)).alloc (Obj.cells #[Value.int IntKind.i64 bW, Value.int IntKind.u64 (U bv), Value.int IntKind.u64 (U bx)] 29)).alloc (Obj.cells #[Value.int IntKind.i64 0, Value.int IntKind.u64 0, Value.int IntKind.u64 0] 29)) = W at C ⊢
  obtain ⟨⟨a0, a1, a2, af⟩, ⟨b0, b1, b2, bf⟩, ⟨p0, p1, p2, pf⟩, lo⟩ := id C
  go_wp2_with fail
  refine (va.out _).mono ?_
  rintro e W1 ⟨rfl, hb⟩
  replace C := C.below hb
  clear a0 a1 a2 af b0 b1 b2 bf p0 p1 p2 pf lo hb
  obtain ⟨⟨a0, a1, a2, af⟩, ⟨b0, b1, b2, bf⟩, ⟨p0, p1, p2, pf⟩, lo⟩ := id C
  go_wp2_with fail
  refine (vb.out _).mono ?_
  rintro e W2 ⟨rfl, hb⟩
  replace C := C.below hb
  clear a0 a1 a2 af b0 b1 b2 bf p0 p1 p2 pf lo hb
  obtain ⟨⟨a0, a1, a2, af⟩, ⟨b0, b1, b2, bf⟩, ⟨p0, p1, p2, pf⟩, lo⟩ := id C
  go_wp2_with fail
  replace C := C.put Q.W (U Q.v) (U Q.x)
  clear a0 a1 a2 af b0 b1 b2 bf p0 p1 p2 pf lo
  obtain ⟨⟨a0, a1, a2, af⟩, ⟨b0, b1, b2, bf⟩, ⟨p0, p1, p2, pf⟩, lo⟩ := C
  exact bodyPost_ret (v := .agg #[.int .i64 Q.W, .int .u64 (U Q.v), .int .u64 (U Q.x)]) (by simp [results, Tryz.results33, go_sem, p0, p1, p2]) rfl ⟨rfl, lo⟩
set_option maxRecDepth 100000 in
set_option maxHeartbeats 1000000 in
theorem le_any (a b : Rb) (s : Bool) (w : World) : Calls Tryz.prog 35 #[.agg #[.int .i64 a.W, .int .u64 (U a.v), .int .u64 (U a.x)], .agg #[.int .i64 b.W, .int .u64 (U b.v), .int .u64 (U b.x)], .bool s] w fun e w' => e = .returned (.agg #[.int .i64 (lnotR (cmR (vlt b.W.toNat s) b a)).W, .int .u64 (U (lnotR (cmR (vlt b.W.toNat s) b a)).v), .int .u64 (U (lnotR (cmR (vlt b.W.toNat s) b a)).x)]) ∧ Below w.heap.size w w' := by
  obtain ⟨aW, av, ax⟩ := a
  obtain ⟨bW, bv, bx⟩ := b
  have va := Lib.hid fun w => lt_any ⟨bW, bv, bx⟩ ⟨aW, av, ax⟩ s w
  generalize cmR _ _ _ = P at va ⊢
  have vb := Lib.hid fun w => lnot_any P w
  generalize lnotR P = Q at vb ⊢
  show Calls Tryz.prog 35 #[.agg #[.int .i64 aW, .int .u64 (U av), .int .u64 (U ax)], .agg #[.int .i64 bW, .int .u64 (U bv), .int .u64 (U bx)], .bool s] w _
  go_enter Tryz.func35, Tryz.ntmps35
  go_wp2_with fail
  have C := tb_new (w := w) ⟨aW, av, ax⟩ ⟨bW, bv, bx⟩
  generalize (((w.alloc (Obj.cells #[Value.int IntKind.i64 aW, Value.int IntKind.u64 (U av), Value.int IntKind.u64 (U ax)] 29)).alloc (Obj.cells #[Value.int IntKind.i64 bW, Value.int IntKind.u64 (U bv), Value.int IntKind.u64 (U bx)] 29)).alloc (Obj.cells #[Value.int IntKind.i64 0, Value.int IntKind.u64 0, Value.int IntKind.u64 0] 29)) = W at C ⊢
  obtain ⟨⟨a0, a1, a2, af⟩, ⟨b0, b1, b2, bf⟩, ⟨p0, p1, p2, pf⟩, lo⟩ := id C
  go_wp2_with fail
  refine (va.out _).mono ?_
  rintro e W1 ⟨rfl, hb⟩
  replace C := C.below hb
  clear a0 a1 a2 af b0 b1 b2 bf p0 p1 p2 pf lo hb
  obtain ⟨⟨a0, a1, a2, af⟩, ⟨b0, b1, b2, bf⟩, ⟨p0, p1, p2, pf⟩, lo⟩ := id C
  go_wp2_with fail
  refine (vb.out _).mono ?_
  rintro e W2 ⟨rfl, hb⟩
  replace C := C.below hb
  clear a0 a1 a2 af b0 b1 b2 bf p0 p1 p2 pf lo hb
  obtain ⟨⟨a0, a1, a2, af⟩, ⟨b0, b1, b2, bf⟩, ⟨p0, p1, p2, pf⟩, lo⟩ := id C
  go_wp2_with fail
  replace C := C.put Q.W (U Q.v) (U Q.x)
  clear a0 a1 a2 af b0 b1 b2 bf p0 p1 p2 pf lo
  obtain ⟨⟨a0, a1, a2, af⟩, ⟨b0, b1, b2, bf⟩, ⟨p0, p1, p2, pf⟩, lo⟩ := C
  exact bodyPost_ret (v := .agg #[.int .i64 Q.W, .int .u64 (U Q.v), .int .u64 (U Q.x)]) (by simp [results, Tryz.results35, go_sem, p0, p1, p2]) rfl ⟨rfl, lo⟩
end Go.Proofs.YtmaokbdjahgkiaaGreatDoor
