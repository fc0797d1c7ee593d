/- Not, And, Or, Xor, the reductions, LNot, LAnd and LOr of any vectors. -/
import Derived.Test.YtmaokbdjahgkiaaGreatDoorCmpProg
import Derived.Test.YtmaokbdjahgkiaaGreatDoorDual
import Derived.Test.YtmaokbdjahgkiaaGreatDoorRelC
import Derived.Lib.QuietBelow
namespace Go.Proofs.YtmaokbdjahgkiaaGreatDoor
open Go Go.RowKit Go.Sort
set_option linter.unusedVariables false
/-- a function of one vector, of any vector: its width, and its words -/
def unR (g : Nat → Nat) (f : Nat → Vx → Vx) (a : Rb) : Rb := if a.okB then ⟨g a.W.toNat, (f a.W.toNat ⟨a.v, a.x⟩).v, (f a.W.toNat ⟨a.v, a.x⟩).x⟩ else ZR
theorem unR_ok {g : Nat → Nat} {f : Nat → Vx → Vx} {n : Nat} {a : Vx} (o : a.ok n) : unR g f ⟨n, a.v, a.x⟩ = ⟨g n, (f n a).v, (f n a).x⟩ := by
  unfold unR; rw [show (⟨n, a.v, a.x⟩ : Rb).okB = true from Rb.okB_of o]; rfl
theorem unR_no {g : Nat → Nat} {f : Nat → Vx → Vx} {a : Rb} (h : a.okB = false) : unR g f a = ZR := by unfold unR; rw [h]; rfl
theorem not_any (a : Rb) (w : World) : Calls Tryz.prog 15 #[.agg #[.int .i64 a.W, .int .u64 (U a.v), .int .u64 (U a.x)]] w fun e w' => e = .returned (.agg #[.int .i64 (unR (fun n => n) vnot a).W, .int .u64 (U (unR (fun n => n) vnot a).v), .int .u64 (U (unR (fun n => n) vnot a).x)]) ∧ Below w.heap.size w w' := by
  cases h : a.okB
  · rw [unR_no h]; exact vnot_ill a w h
  · obtain ⟨n, en, o⟩ := Rb.ok_of h
    obtain ⟨aW, av, ax⟩ := a
    obtain rfl : aW = n := en
    have e := unR_ok (g := (fun n => n)) (f := vnot) (a := ⟨av, ax⟩) o
    rw [e]; exact not_ok n ⟨av, ax⟩ w o
theorem redor_any (a : Rb) (w : World) : Calls Tryz.prog 20 #[.agg #[.int .i64 a.W, .int .u64 (U a.v), .int .u64 (U a.x)]] w fun e w' => e = .returned (.agg #[.int .i64 (unR (fun _ => 1) (fun _ => redor) a).W, .int .u64 (U (unR (fun _ => 1) (fun _ => redor) a).v), .int .u64 (U (unR (fun _ => 1) (fun _ => redor) a).x)]) ∧ Below w.heap.size w w' := by
  cases h : a.okB
  · rw [unR_no h]; exact redor_ill a w h
  · obtain ⟨n, en, o⟩ := Rb.ok_of h
    obtain ⟨aW, av, ax⟩ := a
    obtain rfl : aW = n := en
    have e := unR_ok (g := (fun _ => 1)) (f := (fun _ => redor)) (a := ⟨av, ax⟩) o
    rw [e]; exact redor_ok' n ⟨av, ax⟩ w o
set_option maxRecDepth 100000 in
set_option maxHeartbeats 1000000 in
theorem redxor_ill (a : Rb) (w : World) (h : a.okB = false) : Calls Tryz.prog 21 #[.agg #[.int .i64 a.W, .int .u64 (U a.v), .int .u64 (U a.x)]] w fun e w' => e = .returned (.agg #[.int .i64 0, .int .u64 0, .int .u64 0]) ∧ Below w.heap.size w w' := by
  obtain ⟨aW, av, ax⟩ := a
  have va := Lib.hid fun w => valid_no aW av ax w h
  clear h
  show Calls Tryz.prog 21 #[.agg #[.int .i64 aW, .int .u64 (U av), .int .u64 (U ax)]] w _
  go_enter Tryz.func21, Tryz.ntmps21
  go_wp2_with fail
  have C := sb_new (w := w) ⟨aW, av, ax⟩
  generalize ((w.alloc (Obj.cells #[Value.int IntKind.i64 aW, Value.int IntKind.u64 (U av), Value.int IntKind.u64 (U ax)] 29)).alloc (Obj.cells #[Value.int IntKind.i64 0, Value.int IntKind.u64 0, Value.int IntKind.u64 0] 29)) = W at C ⊢
  obtain ⟨⟨a0, a1, a2, af⟩, ⟨p0, p1, p2, pf⟩, lo⟩ := id C
  go_wp2_with fail
  refine (va.out _).mono ?_
  rintro e W1 ⟨rfl, hb⟩
  replace C := C.below hb
  clear a0 a1 a2 af p0 p1 p2 pf lo hb
  obtain ⟨⟨a0, a1, a2, af⟩, ⟨p0, p1, p2, pf⟩, lo⟩ := id C
  go_wp2_with fail
  replace C := C.put 0 0 0
  clear a0 a1 a2 af p0 p1 p2 pf lo
  obtain ⟨⟨a0, a1, a2, af⟩, ⟨p0, p1, p2, pf⟩, lo⟩ := C
  exact bodyPost_ret (v := .agg #[.int .i64 0, .int .u64 0, .int .u64 0]) (by simp [results, Tryz.results21, go_sem, p0, p1, p2]) rfl ⟨rfl, lo⟩
theorem redxor_any (a : Rb) (w : World) : Calls Tryz.prog 21 #[.agg #[.int .i64 a.W, .int .u64 (U a.v), .int .u64 (U a.x)]] w fun e w' => e = .returned (.agg #[.int .i64 (unR (fun _ => 1) (fun _ => vredxor) a).W, .int .u64 (U (unR (fun _ => 1) (fun _ => vredxor) a).v), .int .u64 (U (unR (fun _ => 1) (fun _ => vredxor) a).x)]) ∧ Below w.heap.size w w' := by
  cases h : a.okB
  · rw [unR_no h]; exact redxor_ill a w h
  · obtain ⟨n, en, o⟩ := Rb.ok_of h
    obtain ⟨aW, av, ax⟩ := a
    obtain rfl : aW = n := en
    have e := unR_ok (g := (fun _ => 1)) (f := (fun _ => vredxor)) (a := ⟨av, ax⟩) o
    rw [e]; exact redxor_ok' n ⟨av, ax⟩ w o
set_option maxRecDepth 100000 in
set_option maxHeartbeats 1000000 in
theorem redand_any (a : Rb) (w : World) : Calls Tryz.prog 19 #[.agg #[.int .i64 a.W, .int .u64 (U a.v), .int .u64 (U a.x)]] w fun e w' => e = .returned (.agg #[.int .i64 (unR (fun n => n) vnot (unR (fun _ => 1) (fun _ => redor) (unR (fun n => n) vnot a))).W, .int .u64 (U (unR (fun n => n) vnot (unR (fun _ => 1) (fun _ => redor) (unR (fun n => n) vnot a))).v), .int .u64 (U (unR (fun n => n) vnot (unR (fun _ => 1) (fun _ => redor) (unR (fun n => n) vnot a))).x)]) ∧ Below w.heap.size w w' := by
  obtain ⟨aW, av, ax⟩ := a
  have va := Lib.hid fun w => not_any ⟨aW, av, ax⟩ w
  generalize unR _ vnot ⟨aW, av, ax⟩ = P at va ⊢
  have vb := Lib.hid fun w => redor_any P w
  generalize unR _ (fun _ => redor) P = Q at vb ⊢
  have vc := Lib.hid fun w => not_any Q w
  generalize unR _ vnot Q = T at vc ⊢
  show Calls Tryz.prog 19 #[.agg #[.int .i64 aW, .int .u64 (U av), .int .u64 (U ax)]] w _
  go_enter Tryz.func19, Tryz.ntmps19
  go_wp2_with fail
  have C := sb_new (w := w) ⟨aW, av, ax⟩
  generalize ((w.alloc (Obj.cells #[Value.int IntKind.i64 aW, Value.int IntKind.u64 (U av), Value.int IntKind.u64 (U ax)] 29)).alloc (Obj.cells #[Value.int IntKind.i64 0, Value.int IntKind.u64 0, Value.int IntKind.u64 0] 29)) = W at C ⊢
  obtain ⟨⟨a0, a1, a2, af⟩, ⟨p0, p1, p2, pf⟩, lo⟩ := id C
  go_wp2_with fail
  refine (va.out _).mono ?_
  rintro e W1 ⟨rfl, hb⟩
  replace C := C.below hb
  clear a0 a1 a2 af p0 p1 p2 pf lo hb
  obtain ⟨⟨a0, a1, a2, af⟩, ⟨p0, p1, p2, pf⟩, lo⟩ := id C
  go_wp2_with fail
  refine (vb.out _).mono ?_
  rintro e W2 ⟨rfl, hb⟩
  replace C := C.below hb
  clear a0 a1 a2 af p0 p1 p2 pf lo hb
  obtain ⟨⟨a0, a1, a2, af⟩, ⟨p0, p1, p2, pf⟩, lo⟩ := id C
  go_wp2_with fail
  refine (vc.out _).mono ?_
  rintro e W3 ⟨rfl, hb⟩
  replace C := C.below hb
  clear a0 a1 a2 af p0 p1 p2 pf lo hb
  obtain ⟨⟨a0, a1, a2, af⟩, ⟨p0, p1, p2, pf⟩, lo⟩ := id C
  go_wp2_with fail
  replace C := C.put T.W (U T.v) (U T.x)
  clear a0 a1 a2 af p0 p1 p2 pf lo
  obtain ⟨⟨a0, a1, a2, af⟩, ⟨p0, p1, p2, pf⟩, lo⟩ := C
  exact bodyPost_ret (v := .agg #[.int .i64 T.W, .int .u64 (U T.v), .int .u64 (U T.x)]) (by simp [results, Tryz.results19, go_sem, p0, p1, p2]) rfl ⟨rfl, lo⟩
/-- an operation of two vectors of one width, of any vectors -/
def biR (f : Nat → Vx → Vx → Vx) (a b : Rb) : Rb := if alikeB a b then ⟨a.W, (f a.W.toNat ⟨a.v, a.x⟩ ⟨b.v, b.x⟩).v, (f a.W.toNat ⟨a.v, a.x⟩ ⟨b.v, b.x⟩).x⟩ else ZR
theorem biR_no {f : Nat → Vx → Vx → Vx} {a b : Rb} (h : alikeB a b = false) : biR f a b = ZR := by unfold biR; rw [h]; rfl
theorem biR_ok {f : Nat → Vx → Vx → Vx} {n : Nat} {av ax bv bx : BitVec 64} (h : alikeB ⟨n, av, ax⟩ ⟨n, bv, bx⟩ = true) : biR f ⟨n, av, ax⟩ ⟨n, bv, bx⟩ = ⟨n, (f n ⟨av, ax⟩ ⟨bv, bx⟩).v, (f n ⟨av, ax⟩ ⟨bv, bx⟩).x⟩ := by unfold biR; rw [h]; rfl
set_option maxRecDepth 100000 in
set_option maxHeartbeats 1000000 in
theorem and_ill (a b : Rb) (w : World) (h : alikeB a b = false) : Calls Tryz.prog 16 #[.agg #[.int .i64 a.W, .int .u64 (U a.v), .int .u64 (U a.x)], .agg #[.int .i64 b.W, .int .u64 (U b.v), .int .u64 (U b.x)]] w fun e w' => e = .returned (.agg #[.int .i64 0, .int .u64 0, .int .u64 0]) ∧ Below w.heap.size w w' := by
  obtain ⟨aW, av, ax⟩ := a
  obtain ⟨bW, bv, bx⟩ := b
  have va := Lib.hid fun w => alike_no ⟨aW, av, ax⟩ ⟨bW, bv, bx⟩ w h
  clear h
  show Calls Tryz.prog 16 #[.agg #[.int .i64 aW, .int .u64 (U av), .int .u64 (U ax)], .agg #[.int .i64 bW, .int .u64 (U bv), .int .u64 (U bx)]] w _
  go_enter Tryz.func16, Tryz.ntmps16
  go_wp2_with fail
  have C := tb_new (w := w) ⟨aW, av, ax⟩ ⟨bW, bv, bx⟩
  generalize (((w.alloc (Obj.cells #[Value.int IntKind.i64 aW, Value.int IntKind.u64 (U av), Value.int IntKind.u64 (U ax)] 29)).alloc (Obj.cells #[Value.int IntKind.i64 bW, Value.int IntKind.u64 (U bv), Value.int IntKind.u64 (U bx)] 29)).alloc (Obj.cells #[Value.int IntKind.i64 0, Value.int IntKind.u64 0, Value.int IntKind.u64 0] 29)) = W at C ⊢
  obtain ⟨⟨a0, a1, a2, af⟩, ⟨b0, b1, b2, bf⟩, ⟨p0, p1, p2, pf⟩, lo⟩ := id C
  go_wp2_with fail
  refine (va.out _).mono ?_
  rintro e W1 ⟨rfl, hb⟩
  replace C := C.below hb
  clear a0 a1 a2 af b0 b1 b2 bf p0 p1 p2 pf lo hb
  obtain ⟨⟨a0, a1, a2, af⟩, ⟨b0, b1, b2, bf⟩, ⟨p0, p1, p2, pf⟩, lo⟩ := id C
  go_wp2_with fail
  replace C := C.put 0 0 0
  clear a0 a1 a2 af b0 b1 b2 bf p0 p1 p2 pf lo
  obtain ⟨⟨a0, a1, a2, af⟩, ⟨b0, b1, b2, bf⟩, ⟨p0, p1, p2, pf⟩, lo⟩ := C
  exact bodyPost_ret (v := .agg #[.int .i64 0, .int .u64 0, .int .u64 0]) (by simp [results, Tryz.results16, go_sem, p0, p1, p2]) rfl ⟨rfl, lo⟩
theorem and_any (a b : Rb) (w : World) : Calls Tryz.prog 16 #[.agg #[.int .i64 a.W, .int .u64 (U a.v), .int .u64 (U a.x)], .agg #[.int .i64 b.W, .int .u64 (U b.v), .int .u64 (U b.x)]] w fun e w' => e = .returned (.agg #[.int .i64 (biR vand a b).W, .int .u64 (U (biR vand a b).v), .int .u64 (U (biR vand a b).x)]) ∧ Below w.heap.size w w' := by
  cases h : alikeB a b
  · rw [biR_no h]; exact and_ill a b w h
  · obtain ⟨n, en, em, oa, ob⟩ := alike_of h
    obtain ⟨aW, av, ax⟩ := a
    obtain ⟨bW, bv, bx⟩ := b
    obtain rfl : aW = n := en
    obtain rfl : bW = n := em
    rw [biR_ok h]; exact and_ok n ⟨av, ax⟩ ⟨bv, bx⟩ w oa ob
set_option maxRecDepth 100000 in
set_option maxHeartbeats 1000000 in
theorem or_ill (a b : Rb) (w : World) (h : alikeB a b = false) : Calls Tryz.prog 17 #[.agg #[.int .i64 a.W, .int .u64 (U a.v), .int .u64 (U a.x)], .agg #[.int .i64 b.W, .int .u64 (U b.v), .int .u64 (U b.x)]] w fun e w' => e = .returned (.agg #[.int .i64 0, .int .u64 0, .int .u64 0]) ∧ Below w.heap.size w w' := by
  obtain ⟨aW, av, ax⟩ := a
  obtain ⟨bW, bv, bx⟩ := b
  have va := Lib.hid fun w => alike_no ⟨aW, av, ax⟩ ⟨bW, bv, bx⟩ w h
  clear h
  show Calls Tryz.prog 17 #[.agg #[.int .i64 aW, .int .u64 (U av), .int .u64 (U ax)], .agg #[.int .i64 bW, .int .u64 (U bv), .int .u64 (U bx)]] w _
  go_enter Tryz.func17, Tryz.ntmps17
  go_wp2_with fail
  have C := tb_new (w := w) ⟨aW, av, ax⟩ ⟨bW, bv, bx⟩
  generalize (((w.alloc (Obj.cells #[Value.int IntKind.i64 aW, Value.int IntKind.u64 (U av), Value.int IntKind.u64 (U ax)] 29)).alloc (Obj.cells #[Value.int IntKind.i64 bW, Value.int IntKind.u64 (U bv), Value.int IntKind.u64 (U bx)] 29)).alloc (Obj.cells #[Value.int IntKind.i64 0, Value.int IntKind.u64 0, Value.int IntKind.u64 0] 29)) = W at C ⊢
  obtain ⟨⟨a0, a1, a2, af⟩, ⟨b0, b1, b2, bf⟩, ⟨p0, p1, p2, pf⟩, lo⟩ := id C
  go_wp2_with fail
  refine (va.out _).mono ?_
  rintro e W1 ⟨rfl, hb⟩
  replace C := C.below hb
  clear a0 a1 a2 af b0 b1 b2 bf p0 p1 p2 pf lo hb
  obtain ⟨⟨a0, a1, a2, af⟩, ⟨b0, b1, b2, bf⟩, ⟨p0, p1, p2, pf⟩, lo⟩ := id C
  go_wp2_with fail
  replace C := C.put 0 0 0
  clear a0 a1 a2 af b0 b1 b2 bf p0 p1 p2 pf lo
  obtain ⟨⟨a0, a1, a2, af⟩, ⟨b0, b1, b2, bf⟩, ⟨p0, p1, p2, pf⟩, lo⟩ := C
  exact bodyPost_ret (v := .agg #[.int .i64 0, .int .u64 0, .int .u64 0]) (by simp [results, Tryz.results17, go_sem, p0, p1, p2]) rfl ⟨rfl, lo⟩
theorem or_any (a b : Rb) (w : World) : Calls Tryz.prog 17 #[.agg #[.int .i64 a.W, .int .u64 (U a.v), .int .u64 (U a.x)], .agg #[.int .i64 b.W, .int .u64 (U b.v), .int .u64 (U b.x)]] w fun e w' => e = .returned (.agg #[.int .i64 (biR vor a b).W, .int .u64 (U (biR vor a b).v), .int .u64 (U (biR vor a b).x)]) ∧ Below w.heap.size w w' := by
  cases h : alikeB a b
  · rw [biR_no h]; exact or_ill a b w h
  · obtain ⟨n, en, em, oa, ob⟩ := alike_of h
    obtain ⟨aW, av, ax⟩ := a
    obtain ⟨bW, bv, bx⟩ := b
    obtain rfl : aW = n := en
    obtain rfl : bW = n := em
    rw [biR_ok h]; exact or_ok n ⟨av, ax⟩ ⟨bv, bx⟩ w oa ob
set_option maxRecDepth 100000 in
set_option maxHeartbeats 1000000 in
theorem xor_ill (a b : Rb) (w : World) (h : alikeB a b = false) : Calls Tryz.prog 18 #[.agg #[.int .i64 a.W, .int .u64 (U a.v), .int .u64 (U a.x)], .agg #[.int .i64 b.W, .int .u64 (U b.v), .int .u64 (U b.x)]] w fun e w' => e = .returned (.agg #[.int .i64 0, .int .u64 0, .int .u64 0]) ∧ Below w.heap.size w w' := by
  obtain ⟨aW, av, ax⟩ := a
  obtain ⟨bW, bv, bx⟩ := b
  have va := Lib.hid fun w => alike_no ⟨aW, av, ax⟩ ⟨bW, bv, bx⟩ w h
  clear h
  show Calls Tryz.prog 18 #[.agg #[.int .i64 aW, .int .u64 (U av), .int .u64 (U ax)], .agg #[.int .i64 bW, .int .u64 (U bv), .int .u64 (U bx)]] w _
  go_enter Tryz.func18, Tryz.ntmps18
  go_wp2_with fail
  have C := tb_new (w := w) ⟨aW, av, ax⟩ ⟨bW, bv, bx⟩
  generalize (((w.alloc (Obj.cells #[Value.int IntKind.i64 aW, Value.int IntKind.u64 (U av), Value.int IntKind.u64 (U ax)] 29)).alloc (Obj.cells #[Value.int IntKind.i64 bW, Value.int IntKind.u64 (U bv), Value.int IntKind.u64 (U bx)] 29)).alloc (Obj.cells #[Value.int IntKind.i64 0, Value.int IntKind.u64 0, Value.int IntKind.u64 0] 29)) = W at C ⊢
  obtain ⟨⟨a0, a1, a2, af⟩, ⟨b0, b1, b2, bf⟩, ⟨p0, p1, p2, pf⟩, lo⟩ := id C
  go_wp2_with fail
  refine (va.out _).mono ?_
  rintro e W1 ⟨rfl, hb⟩
  replace C := C.below hb
  clear a0 a1 a2 af b0 b1 b2 bf p0 p1 p2 pf lo hb
  obtain ⟨⟨a0, a1, a2, af⟩, ⟨b0, b1, b2, bf⟩, ⟨p0, p1, p2, pf⟩, lo⟩ := id C
  go_wp2_with fail
  replace C := C.put 0 0 0
  clear a0 a1 a2 af b0 b1 b2 bf p0 p1 p2 pf lo
  obtain ⟨⟨a0, a1, a2, af⟩, ⟨b0, b1, b2, bf⟩, ⟨p0, p1, p2, pf⟩, lo⟩ := C
  exact bodyPost_ret (v := .agg #[.int .i64 0, .int .u64 0, .int .u64 0]) (by simp [results, Tryz.results18, go_sem, p0, p1, p2]) rfl ⟨rfl, lo⟩
theorem xor_any (a b : Rb) (w : World) : Calls Tryz.prog 18 #[.agg #[.int .i64 a.W, .int .u64 (U a.v), .int .u64 (U a.x)], .agg #[.int .i64 b.W, .int .u64 (U b.v), .int .u64 (U b.x)]] w fun e w' => e = .returned (.agg #[.int .i64 (biR vxor a b).W, .int .u64 (U (biR vxor a b).v), .int .u64 (U (biR vxor a b).x)]) ∧ Below w.heap.size w w' := by
  cases h : alikeB a b
  · rw [biR_no h]; exact xor_ill a b w h
  · obtain ⟨n, en, em, oa, ob⟩ := alike_of h
    obtain ⟨aW, av, ax⟩ := a
    obtain ⟨bW, bv, bx⟩ := b
    obtain rfl : aW = n := en
    obtain rfl : bW = n := em
    rw [biR_ok h]; exact xor_ok n ⟨av, ax⟩ ⟨bv, bx⟩ w oa ob
set_option maxRecDepth 100000 in
set_option maxHeartbeats 2000000 in
theorem land_any (a b : Rb) (w : World) : Calls Tryz.prog 23 #[.agg #[.int .i64 a.W, .int .u64 (U a.v), .int .u64 (U a.x)], .agg #[.int .i64 b.W, .int .u64 (U b.v), .int .u64 (U b.x)]] w fun e w' => e = .returned (.agg #[.int .i64 (biR vand (unR (fun _ => 1) (fun _ => redor) a) (unR (fun _ => 1) (fun _ => redor) b)).W, .int .u64 (U (biR vand (unR (fun _ => 1) (fun _ => redor) a) (unR (fun _ => 1) (fun _ => redor) b)).v), .int .u64 (U (biR vand (unR (fun _ => 1) (fun _ => redor) a) (unR (fun _ => 1) (fun _ => redor) b)).x)]) ∧ Below w.heap.size w w' := by
  obtain ⟨aW, av, ax⟩ := a
  obtain ⟨bW, bv, bx⟩ := b
  have va := Lib.hid fun w => redor_any ⟨aW, av, ax⟩ w
  have vb := Lib.hid fun w => redor_any ⟨bW, bv, bx⟩ w
  generalize unR _ (fun _ => redor) ⟨aW, av, ax⟩ = P at va ⊢
  generalize unR _ (fun _ => redor) ⟨bW, bv, bx⟩ = Q at vb ⊢
  have vc := Lib.hid fun w => and_any P Q w
  generalize biR _ P Q = T at vc ⊢
  show Calls Tryz.prog 23 #[.agg #[.int .i64 aW, .int .u64 (U av), .int .u64 (U ax)], .agg #[.int .i64 bW, .int .u64 (U bv), .int .u64 (U bx)]] w _
  go_enter Tryz.func23, Tryz.ntmps23
  go_wp2_with fail
  have C := tb_new (w := w) ⟨aW, av, ax⟩ ⟨bW, bv, bx⟩
  generalize (((w.alloc (Obj.cells #[Value.int IntKind.i64 aW, Value.int IntKind.u64 (U av), Value.int IntKind.u64 (U ax)] 29)).alloc (Obj.cells #[Value.int IntKind.i64 bW, Value.int IntKind.u64 (U bv), Value.int IntKind.u64 (U bx)] 29)).alloc (Obj.cells #[Value.int IntKind.i64 0, Value.int IntKind.u64 0, Value.int IntKind.u64 0] 29)) = W at C ⊢
  obtain ⟨⟨a0, a1, a2, af⟩, ⟨b0, b1, b2, bf⟩, ⟨p0, p1, p2, pf⟩, lo⟩ := id C
  go_wp2_with fail
  have ga0 := cell_regrown a0
  have ga1 := cell_regrown a1
  have ga2 := cell_regrown a2
  have gb0 := cell_regrown b0
  have gb1 := cell_regrown b1
  have gb2 := cell_regrown b2
  refine wp_region_rel 5 (by kernel_rfl) (by kernel_rfl) ?_
  simp only [List.take_succ_cons, List.take_zero, List.drop_succ_cons, List.drop_zero]
  (refine rel_fix0 (fun K hK => ?_); go_simp; refine hK _ ?_; clear hK K)
  (refine rel_fix0 (fun K hK => ?_); go_simp; apply Exists.intro; refine ⟨fun _ _ => ?_, hK _ ?_⟩; (with_reducible exact ret_fix (va.out _)); clear hK K)
  (refine rel_fix0 (fun K hK => ?_); go_simp; refine hK _ ?_; clear hK K)
  (refine rel_fix0 (fun K hK => ?_); go_simp; apply Exists.intro; refine ⟨fun _ _ => ?_, hK _ ?_⟩; (with_reducible exact ret_fix (vb.out _)); clear hK K)
  (refine rel_fix0 (fun K hK => ?_); go_simp; apply Exists.intro; refine ⟨fun _ _ => ?_, hK _ ?_⟩; (with_reducible exact ret_fix (vc.out _)); clear hK K)
  refine rel_nil ?_
  intro d os
  simp only [relAll]
  clear ga0 ga1 ga2 gb0 gb1 gb2
  clear a0 a1 a2 af b0 b1 b2 bf p0 p1 p2 pf lo
  replace C := C.below (below_regrown _ d os)
  generalize grow (redrawn _ d) os = W9 at C ⊢
  obtain ⟨⟨a0, a1, a2, af⟩, ⟨b0, b1, b2, bf⟩, ⟨p0, p1, p2, pf⟩, lo⟩ := id C
  go_wp2_with fail
  replace C := C.put T.W (U T.v) (U T.x)
  clear a0 a1 a2 af b0 b1 b2 bf p0 p1 p2 pf lo
  obtain ⟨⟨a0, a1, a2, af⟩, ⟨b0, b1, b2, bf⟩, ⟨p0, p1, p2, pf⟩, lo⟩ := C
  exact bodyPost_ret (v := .agg #[.int .i64 T.W, .int .u64 (U T.v), .int .u64 (U T.x)]) (by simp [results, Tryz.results23, go_sem, p0, p1, p2]) rfl ⟨rfl, lo⟩
set_option maxRecDepth 100000 in
set_option maxHeartbeats 2000000 in
theorem lor_any (a b : Rb) (w : World) : Calls Tryz.prog 24 #[.agg #[.int .i64 a.W, .int .u64 (U a.v), .int .u64 (U a.x)], .agg #[.int .i64 b.W, .int .u64 (U b.v), .int .u64 (U b.x)]] w fun e w' => e = .returned (.agg #[.int .i64 (biR vor (unR (fun _ => 1) (fun _ => redor) a) (unR (fun _ => 1) (fun _ => redor) b)).W, .int .u64 (U (biR vor (unR (fun _ => 1) (fun _ => redor) a) (unR (fun _ => 1) (fun _ => redor) b)).v), .int .u64 (U (biR vor (unR (fun _ => 1) (fun _ => redor) a) (unR (fun _ => 1) (fun _ => redor) b)).x)]) ∧ Below w.heap.size w w' := by
  obtain ⟨aW, av, ax⟩ := a
  obtain ⟨bW, bv, bx⟩ := b
  have va := Lib.hid fun w => redor_any ⟨aW, av, ax⟩ w
  have vb := Lib.hid fun w => redor_any ⟨bW, bv, bx⟩ w
  generalize unR _ (fun _ => redor) ⟨aW, av, ax⟩ = P at va ⊢
  generalize unR _ (fun _ => redor) ⟨bW, bv, bx⟩ = Q at vb ⊢
  have vc := Lib.hid fun w => or_any P Q w
  generalize biR _ P Q = T at vc ⊢
  show Calls Tryz.prog 24 #[.agg #[.int .i64 aW, .int .u64 (U av), .int .u64 (U ax)], .agg #[.int .i64 bW, .int .u64 (U bv), .int .u64 (U bx)]] w _
  go_enter Tryz.func24, Tryz.ntmps24
  go_wp2_with fail
  have C := tb_new (w := w) ⟨aW, av, ax⟩ ⟨bW, bv, bx⟩
  generalize (((w.alloc (Obj.cells #[Value.int IntKind.i64 aW, Value.int IntKind.u64 (U av), Value.int IntKind.u64 (U ax)] 29)).alloc (Obj.cells #[Value.int IntKind.i64 bW, Value.int IntKind.u64 (U bv), Value.int IntKind.u64 (U bx)] 29)).alloc (Obj.cells #[Value.int IntKind.i64 0, Value.int IntKind.u64 0, Value.int IntKind.u64 0] 29)) = W at C ⊢
  obtain ⟨⟨a0, a1, a2, af⟩, ⟨b0, b1, b2, bf⟩, ⟨p0, p1, p2, pf⟩, lo⟩ := id C
  go_wp2_with fail
  have ga0 := cell_regrown a0
  have ga1 := cell_regrown a1
  have ga2 := cell_regrown a2
  have gb0 := cell_regrown b0
  have gb1 := cell_regrown b1
  have gb2 := cell_regrown b2
  refine wp_region_rel 5 (by kernel_rfl) (by kernel_rfl) ?_
  simp only [List.take_succ_cons, List.take_zero, List.drop_succ_cons, List.drop_zero]
  (refine rel_fix0 (fun K hK => ?_); go_simp; refine hK _ ?_; clear hK K)
  (refine rel_fix0 (fun K hK => ?_); go_simp; apply Exists.intro; refine ⟨fun _ _ => ?_, hK _ ?_⟩; (with_reducible exact ret_fix (va.out _)); clear hK K)
  (refine rel_fix0 (fun K hK => ?_); go_simp; refine hK _ ?_; clear hK K)
  (refine rel_fix0 (fun K hK => ?_); go_simp; apply Exists.intro; refine ⟨fun _ _ => ?_, hK _ ?_⟩; (with_reducible exact ret_fix (vb.out _)); clear hK K)
  (refine rel_fix0 (fun K hK => ?_); go_simp; apply Exists.intro; refine ⟨fun _ _ => ?_, hK _ ?_⟩; (with_reducible exact ret_fix (vc.out _)); clear hK K)
  refine rel_nil ?_
  intro d os
  simp only [relAll]
  clear ga0 ga1 ga2 gb0 gb1 gb2
  clear a0 a1 a2 af b0 b1 b2 bf p0 p1 p2 pf lo
  replace C := C.below (below_regrown _ d os)
  generalize grow (redrawn _ d) os = W9 at C ⊢
  obtain ⟨⟨a0, a1, a2, af⟩, ⟨b0, b1, b2, bf⟩, ⟨p0, p1, p2, pf⟩, lo⟩ := id C
  go_wp2_with fail
  replace C := C.put T.W (U T.v) (U T.x)
  clear a0 a1 a2 af b0 b1 b2 bf p0 p1 p2 pf lo
  obtain ⟨⟨a0, a1, a2, af⟩, ⟨b0, b1, b2, bf⟩, ⟨p0, p1, p2, pf⟩, lo⟩ := C
  exact bodyPost_ret (v := .agg #[.int .i64 T.W, .int .u64 (U T.v), .int .u64 (U T.x)]) (by simp [results, Tryz.results24, go_sem, p0, p1, p2]) rfl ⟨rfl, lo⟩
end Go.Proofs.YtmaokbdjahgkiaaGreatDoor
