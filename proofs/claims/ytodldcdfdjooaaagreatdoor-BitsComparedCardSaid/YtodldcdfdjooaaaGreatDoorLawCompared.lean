/- The law BitsCompared: its walk. -/
import Derived.Test.YtodldcdfdjooaaaGreatDoorCmpMath
import Derived.Test.YtodldcdfdjooaaaGreatDoorVectors
namespace Go.Proofs.YtodldcdfdjooaaaGreatDoor
open Go Go.RowKit Go.Sort
set_option linter.unusedVariables false
set_option maxRecDepth 100000 in
set_option maxHeartbeats 1000000 in
theorem binary_Eq (a b P : Rb) (s : Bool) (c : ∀ w, Calls Tryz.prog 57 #[.agg #[.int .i64 a.W, .int .u64 (U a.v), .int .u64 (U a.x)], .agg #[.int .i64 b.W, .int .u64 (U b.v), .int .u64 (U b.x)]] w fun e w' => e = .returned (.agg #[.int .i64 P.W, .int .u64 (U P.v), .int .u64 (U P.x)]) ∧ Below w.heap.size w w') (w : World) : Calls Tryz.prog 42 #[.int .i64 24, .agg #[.int .i64 a.W, .int .u64 (U a.v), .int .u64 (U a.x)], .agg #[.int .i64 b.W, .int .u64 (U b.v), .int .u64 (U b.x)], .bool s] w fun e w' => e = .returned (.agg #[.int .i64 P.W, .int .u64 (U P.v), .int .u64 (U P.x)]) ∧ Below w.heap.size w w' := by
  obtain ⟨aW, av, ax⟩ := a
  obtain ⟨bW, bv, bx⟩ := b
  have vc := Lib.hid c
  clear c
  show Calls Tryz.prog 42 #[.int .i64 24, .agg #[.int .i64 aW, .int .u64 (U av), .int .u64 (U ax)], .agg #[.int .i64 bW, .int .u64 (U bv), .int .u64 (U bx)], .bool s] w _
  go_enter Tryz.func42, Tryz.ntmps42
  go_wp2_with fail
  have C := tb_new (w := w) ⟨aW, av, ax⟩ ⟨bW, bv, bx⟩
  generalize (((w.alloc (Obj.cells #[Value.int IntKind.i64 aW, Value.int IntKind.u64 (U av), Value.int IntKind.u64 (U ax)] 24)).alloc (Obj.cells #[Value.int IntKind.i64 bW, Value.int IntKind.u64 (U bv), Value.int IntKind.u64 (U bx)] 24)).alloc (Obj.cells #[Value.int IntKind.i64 0, Value.int IntKind.u64 0, Value.int IntKind.u64 0] 24)) = W at C ⊢
  obtain ⟨⟨a0, a1, a2, af⟩, ⟨b0, b1, b2, bf⟩, ⟨p0, p1, p2, pf⟩, lo⟩ := id C
  go_wp2_with fail
  refine (vc.out _).mono ?_
  rintro e W1 ⟨rfl, hb⟩
  replace C := C.below hb
  clear a0 a1 a2 af b0 b1 b2 bf p0 p1 p2 pf lo hb
  obtain ⟨⟨a0, a1, a2, af⟩, ⟨b0, b1, b2, bf⟩, ⟨p0, p1, p2, pf⟩, lo⟩ := id C
  go_wp2_with fail
  replace C := C.put P.W (U P.v) (U P.x)
  clear a0 a1 a2 af b0 b1 b2 bf p0 p1 p2 pf lo
  obtain ⟨⟨a0, a1, a2, af⟩, ⟨b0, b1, b2, bf⟩, ⟨p0, p1, p2, pf⟩, lo⟩ := C
  exact bodyPost_ret (v := .agg #[.int .i64 P.W, .int .u64 (U P.v), .int .u64 (U P.x)]) (by simp [results, Tryz.results42, go_sem, p0, p1, p2]) rfl ⟨rfl, lo⟩
set_option maxRecDepth 100000 in
set_option maxHeartbeats 1000000 in
theorem binary_Ne (a b P : Rb) (s : Bool) (c : ∀ w, Calls Tryz.prog 58 #[.agg #[.int .i64 a.W, .int .u64 (U a.v), .int .u64 (U a.x)], .agg #[.int .i64 b.W, .int .u64 (U b.v), .int .u64 (U b.x)]] w fun e w' => e = .returned (.agg #[.int .i64 P.W, .int .u64 (U P.v), .int .u64 (U P.x)]) ∧ Below w.heap.size w w') (w : World) : Calls Tryz.prog 42 #[.int .i64 25, .agg #[.int .i64 a.W, .int .u64 (U a.v), .int .u64 (U a.x)], .agg #[.int .i64 b.W, .int .u64 (U b.v), .int .u64 (U b.x)], .bool s] w fun e w' => e = .returned (.agg #[.int .i64 P.W, .int .u64 (U P.v), .int .u64 (U P.x)]) ∧ Below w.heap.size w w' := by
  obtain ⟨aW, av, ax⟩ := a
  obtain ⟨bW, bv, bx⟩ := b
  have vc := Lib.hid c
  clear c
  show Calls Tryz.prog 42 #[.int .i64 25, .agg #[.int .i64 aW, .int .u64 (U av), .int .u64 (U ax)], .agg #[.int .i64 bW, .int .u64 (U bv), .int .u64 (U bx)], .bool s] w _
  go_enter Tryz.func42, Tryz.ntmps42
  go_wp2_with fail
  have C := tb_new (w := w) ⟨aW, av, ax⟩ ⟨bW, bv, bx⟩
  generalize (((w.alloc (Obj.cells #[Value.int IntKind.i64 aW, Value.int IntKind.u64 (U av), Value.int IntKind.u64 (U ax)] 24)).alloc (Obj.cells #[Value.int IntKind.i64 bW, Value.int IntKind.u64 (U bv), Value.int IntKind.u64 (U bx)] 24)).alloc (Obj.cells #[Value.int IntKind.i64 0, Value.int IntKind.u64 0, Value.int IntKind.u64 0] 24)) = W at C ⊢
  obtain ⟨⟨a0, a1, a2, af⟩, ⟨b0, b1, b2, bf⟩, ⟨p0, p1, p2, pf⟩, lo⟩ := id C
  go_wp2_with fail
  refine (vc.out _).mono ?_
  rintro e W1 ⟨rfl, hb⟩
  replace C := C.below hb
  clear a0 a1 a2 af b0 b1 b2 bf p0 p1 p2 pf lo hb
  obtain ⟨⟨a0, a1, a2, af⟩, ⟨b0, b1, b2, bf⟩, ⟨p0, p1, p2, pf⟩, lo⟩ := id C
  go_wp2_with fail
  replace C := C.put P.W (U P.v) (U P.x)
  clear a0 a1 a2 af b0 b1 b2 bf p0 p1 p2 pf lo
  obtain ⟨⟨a0, a1, a2, af⟩, ⟨b0, b1, b2, bf⟩, ⟨p0, p1, p2, pf⟩, lo⟩ := C
  exact bodyPost_ret (v := .agg #[.int .i64 P.W, .int .u64 (U P.v), .int .u64 (U P.x)]) (by simp [results, Tryz.results42, go_sem, p0, p1, p2]) rfl ⟨rfl, lo⟩
set_option maxRecDepth 100000 in
set_option maxHeartbeats 1000000 in
theorem binary_CaseEq (a b P : Rb) (s : Bool) (c : ∀ w, Calls Tryz.prog 92 #[.agg #[.int .i64 a.W, .int .u64 (U a.v), .int .u64 (U a.x)], .agg #[.int .i64 b.W, .int .u64 (U b.v), .int .u64 (U b.x)]] w fun e w' => e = .returned (.agg #[.int .i64 P.W, .int .u64 (U P.v), .int .u64 (U P.x)]) ∧ Below w.heap.size w w') (w : World) : Calls Tryz.prog 42 #[.int .i64 26, .agg #[.int .i64 a.W, .int .u64 (U a.v), .int .u64 (U a.x)], .agg #[.int .i64 b.W, .int .u64 (U b.v), .int .u64 (U b.x)], .bool s] w fun e w' => e = .returned (.agg #[.int .i64 P.W, .int .u64 (U P.v), .int .u64 (U P.x)]) ∧ Below w.heap.size w w' := by
  obtain ⟨aW, av, ax⟩ := a
  obtain ⟨bW, bv, bx⟩ := b
  have vc := Lib.hid c
  clear c
  show Calls Tryz.prog 42 #[.int .i64 26, .agg #[.int .i64 aW, .int .u64 (U av), .int .u64 (U ax)], .agg #[.int .i64 bW, .int .u64 (U bv), .int .u64 (U bx)], .bool s] w _
  go_enter Tryz.func42, Tryz.ntmps42
  go_wp2_with fail
  have C := tb_new (w := w) ⟨aW, av, ax⟩ ⟨bW, bv, bx⟩
  generalize (((w.alloc (Obj.cells #[Value.int IntKind.i64 aW, Value.int IntKind.u64 (U av), Value.int IntKind.u64 (U ax)] 24)).alloc (Obj.cells #[Value.int IntKind.i64 bW, Value.int IntKind.u64 (U bv), Value.int IntKind.u64 (U bx)] 24)).alloc (Obj.cells #[Value.int IntKind.i64 0, Value.int IntKind.u64 0, Value.int IntKind.u64 0] 24)) = W at C ⊢
  obtain ⟨⟨a0, a1, a2, af⟩, ⟨b0, b1, b2, bf⟩, ⟨p0, p1, p2, pf⟩, lo⟩ := id C
  go_wp2_with fail
  refine (vc.out _).mono ?_
  rintro e W1 ⟨rfl, hb⟩
  replace C := C.below hb
  clear a0 a1 a2 af b0 b1 b2 bf p0 p1 p2 pf lo hb
  obtain ⟨⟨a0, a1, a2, af⟩, ⟨b0, b1, b2, bf⟩, ⟨p0, p1, p2, pf⟩, lo⟩ := id C
  go_wp2_with fail
  replace C := C.put P.W (U P.v) (U P.x)
  clear a0 a1 a2 af b0 b1 b2 bf p0 p1 p2 pf lo
  obtain ⟨⟨a0, a1, a2, af⟩, ⟨b0, b1, b2, bf⟩, ⟨p0, p1, p2, pf⟩, lo⟩ := C
  exact bodyPost_ret (v := .agg #[.int .i64 P.W, .int .u64 (U P.v), .int .u64 (U P.x)]) (by simp [results, Tryz.results42, go_sem, p0, p1, p2]) rfl ⟨rfl, lo⟩
set_option maxRecDepth 100000 in
set_option maxHeartbeats 1000000 in
theorem binary_CaseNe (a b P : Rb) (s : Bool) (c : ∀ w, Calls Tryz.prog 93 #[.agg #[.int .i64 a.W, .int .u64 (U a.v), .int .u64 (U a.x)], .agg #[.int .i64 b.W, .int .u64 (U b.v), .int .u64 (U b.x)]] w fun e w' => e = .returned (.agg #[.int .i64 P.W, .int .u64 (U P.v), .int .u64 (U P.x)]) ∧ Below w.heap.size w w') (w : World) : Calls Tryz.prog 42 #[.int .i64 27, .agg #[.int .i64 a.W, .int .u64 (U a.v), .int .u64 (U a.x)], .agg #[.int .i64 b.W, .int .u64 (U b.v), .int .u64 (U b.x)], .bool s] w fun e w' => e = .returned (.agg #[.int .i64 P.W, .int .u64 (U P.v), .int .u64 (U P.x)]) ∧ Below w.heap.size w w' := by
  obtain ⟨aW, av, ax⟩ := a
  obtain ⟨bW, bv, bx⟩ := b
  have vc := Lib.hid c
  clear c
  show Calls Tryz.prog 42 #[.int .i64 27, .agg #[.int .i64 aW, .int .u64 (U av), .int .u64 (U ax)], .agg #[.int .i64 bW, .int .u64 (U bv), .int .u64 (U bx)], .bool s] w _
  go_enter Tryz.func42, Tryz.ntmps42
  go_wp2_with fail
  have C := tb_new (w := w) ⟨aW, av, ax⟩ ⟨bW, bv, bx⟩
  generalize (((w.alloc (Obj.cells #[Value.int IntKind.i64 aW, Value.int IntKind.u64 (U av), Value.int IntKind.u64 (U ax)] 24)).alloc (Obj.cells #[Value.int IntKind.i64 bW, Value.int IntKind.u64 (U bv), Value.int IntKind.u64 (U bx)] 24)).alloc (Obj.cells #[Value.int IntKind.i64 0, Value.int IntKind.u64 0, Value.int IntKind.u64 0] 24)) = W at C ⊢
  obtain ⟨⟨a0, a1, a2, af⟩, ⟨b0, b1, b2, bf⟩, ⟨p0, p1, p2, pf⟩, lo⟩ := id C
  go_wp2_with fail
  refine (vc.out _).mono ?_
  rintro e W1 ⟨rfl, hb⟩
  replace C := C.below hb
  clear a0 a1 a2 af b0 b1 b2 bf p0 p1 p2 pf lo hb
  obtain ⟨⟨a0, a1, a2, af⟩, ⟨b0, b1, b2, bf⟩, ⟨p0, p1, p2, pf⟩, lo⟩ := id C
  go_wp2_with fail
  replace C := C.put P.W (U P.v) (U P.x)
  clear a0 a1 a2 af b0 b1 b2 bf p0 p1 p2 pf lo
  obtain ⟨⟨a0, a1, a2, af⟩, ⟨b0, b1, b2, bf⟩, ⟨p0, p1, p2, pf⟩, lo⟩ := C
  exact bodyPost_ret (v := .agg #[.int .i64 P.W, .int .u64 (U P.v), .int .u64 (U P.x)]) (by simp [results, Tryz.results42, go_sem, p0, p1, p2]) rfl ⟨rfl, lo⟩
set_option maxRecDepth 100000 in
set_option maxHeartbeats 1000000 in
theorem binary_Lt (a b P : Rb) (s : Bool) (c : ∀ w, Calls Tryz.prog 59 #[.agg #[.int .i64 a.W, .int .u64 (U a.v), .int .u64 (U a.x)], .agg #[.int .i64 b.W, .int .u64 (U b.v), .int .u64 (U b.x)], .bool s] w fun e w' => e = .returned (.agg #[.int .i64 P.W, .int .u64 (U P.v), .int .u64 (U P.x)]) ∧ Below w.heap.size w w') (w : World) : Calls Tryz.prog 42 #[.int .i64 28, .agg #[.int .i64 a.W, .int .u64 (U a.v), .int .u64 (U a.x)], .agg #[.int .i64 b.W, .int .u64 (U b.v), .int .u64 (U b.x)], .bool s] w fun e w' => e = .returned (.agg #[.int .i64 P.W, .int .u64 (U P.v), .int .u64 (U P.x)]) ∧ Below w.heap.size w w' := by
  obtain ⟨aW, av, ax⟩ := a
  obtain ⟨bW, bv, bx⟩ := b
  have vc := Lib.hid c
  clear c
  show Calls Tryz.prog 42 #[.int .i64 28, .agg #[.int .i64 aW, .int .u64 (U av), .int .u64 (U ax)], .agg #[.int .i64 bW, .int .u64 (U bv), .int .u64 (U bx)], .bool s] w _
  go_enter Tryz.func42, Tryz.ntmps42
  go_wp2_with fail
  have C := tb_new (w := w) ⟨aW, av, ax⟩ ⟨bW, bv, bx⟩
  generalize (((w.alloc (Obj.cells #[Value.int IntKind.i64 aW, Value.int IntKind.u64 (U av), Value.int IntKind.u64 (U ax)] 24)).alloc (Obj.cells #[Value.int IntKind.i64 bW, Value.int IntKind.u64 (U bv), Value.int IntKind.u64 (U bx)] 24)).alloc (Obj.cells #[Value.int IntKind.i64 0, Value.int IntKind.u64 0, Value.int IntKind.u64 0] 24)) = W at C ⊢
  obtain ⟨⟨a0, a1, a2, af⟩, ⟨b0, b1, b2, bf⟩, ⟨p0, p1, p2, pf⟩, lo⟩ := id C
  go_wp2_with fail
  refine (vc.out _).mono ?_
  rintro e W1 ⟨rfl, hb⟩
  replace C := C.below hb
  clear a0 a1 a2 af b0 b1 b2 bf p0 p1 p2 pf lo hb
  obtain ⟨⟨a0, a1, a2, af⟩, ⟨b0, b1, b2, bf⟩, ⟨p0, p1, p2, pf⟩, lo⟩ := id C
  go_wp2_with fail
  replace C := C.put P.W (U P.v) (U P.x)
  clear a0 a1 a2 af b0 b1 b2 bf p0 p1 p2 pf lo
  obtain ⟨⟨a0, a1, a2, af⟩, ⟨b0, b1, b2, bf⟩, ⟨p0, p1, p2, pf⟩, lo⟩ := C
  exact bodyPost_ret (v := .agg #[.int .i64 P.W, .int .u64 (U P.v), .int .u64 (U P.x)]) (by simp [results, Tryz.results42, go_sem, p0, p1, p2]) rfl ⟨rfl, lo⟩
set_option maxRecDepth 100000 in
set_option maxHeartbeats 1000000 in
theorem binary_Le (a b P : Rb) (s : Bool) (c : ∀ w, Calls Tryz.prog 60 #[.agg #[.int .i64 a.W, .int .u64 (U a.v), .int .u64 (U a.x)], .agg #[.int .i64 b.W, .int .u64 (U b.v), .int .u64 (U b.x)], .bool s] w fun e w' => e = .returned (.agg #[.int .i64 P.W, .int .u64 (U P.v), .int .u64 (U P.x)]) ∧ Below w.heap.size w w') (w : World) : Calls Tryz.prog 42 #[.int .i64 29, .agg #[.int .i64 a.W, .int .u64 (U a.v), .int .u64 (U a.x)], .agg #[.int .i64 b.W, .int .u64 (U b.v), .int .u64 (U b.x)], .bool s] w fun e w' => e = .returned (.agg #[.int .i64 P.W, .int .u64 (U P.v), .int .u64 (U P.x)]) ∧ Below w.heap.size w w' := by
  obtain ⟨aW, av, ax⟩ := a
  obtain ⟨bW, bv, bx⟩ := b
  have vc := Lib.hid c
  clear c
  show Calls Tryz.prog 42 #[.int .i64 29, .agg #[.int .i64 aW, .int .u64 (U av), .int .u64 (U ax)], .agg #[.int .i64 bW, .int .u64 (U bv), .int .u64 (U bx)], .bool s] w _
  go_enter Tryz.func42, Tryz.ntmps42
  go_wp2_with fail
  have C := tb_new (w := w) ⟨aW, av, ax⟩ ⟨bW, bv, bx⟩
  generalize (((w.alloc (Obj.cells #[Value.int IntKind.i64 aW, Value.int IntKind.u64 (U av), Value.int IntKind.u64 (U ax)] 24)).alloc (Obj.cells #[Value.int IntKind.i64 bW, Value.int IntKind.u64 (U bv), Value.int IntKind.u64 (U bx)] 24)).alloc (Obj.cells #[Value.int IntKind.i64 0, Value.int IntKind.u64 0, Value.int IntKind.u64 0] 24)) = W at C ⊢
  obtain ⟨⟨a0, a1, a2, af⟩, ⟨b0, b1, b2, bf⟩, ⟨p0, p1, p2, pf⟩, lo⟩ := id C
  go_wp2_with fail
  refine (vc.out _).mono ?_
  rintro e W1 ⟨rfl, hb⟩
  replace C := C.below hb
  clear a0 a1 a2 af b0 b1 b2 bf p0 p1 p2 pf lo hb
  obtain ⟨⟨a0, a1, a2, af⟩, ⟨b0, b1, b2, bf⟩, ⟨p0, p1, p2, pf⟩, lo⟩ := id C
  go_wp2_with fail
  replace C := C.put P.W (U P.v) (U P.x)
  clear a0 a1 a2 af b0 b1 b2 bf p0 p1 p2 pf lo
  obtain ⟨⟨a0, a1, a2, af⟩, ⟨b0, b1, b2, bf⟩, ⟨p0, p1, p2, pf⟩, lo⟩ := C
  exact bodyPost_ret (v := .agg #[.int .i64 P.W, .int .u64 (U P.v), .int .u64 (U P.x)]) (by simp [results, Tryz.results42, go_sem, p0, p1, p2]) rfl ⟨rfl, lo⟩
set_option maxRecDepth 100000 in
set_option maxHeartbeats 1000000 in
theorem Binary_Eq (v u : Value) (s : Bool) (w : World) (c : Nat) (hc : c = 116 ∨ c = 102 ∨ c = 117) (k : Calls Tryz.prog 87 #[v, u] w fun e w' => e = .returned (.int .u8 (c : Nat)) ∧ Below w.heap.size w w') :
    Calls Tryz.prog 41 #[.int .i64 24, v, u, .bool s] w fun e w' => ∃ r, e = .returned r ∧ Row8 w' r [oneB c] ∧ Below w.heap.size w w' := by
  have K := Lib.hid k
  have HO := Lib.hid fun w => one_is c hc w
  clear k hc
  go_enter Tryz.func41, Tryz.ntmps41
  go_wp2_with fail
  refine (K.out).mono ?_
  rintro e w1 ⟨rfl, hb⟩
  go_wp2_with fail
  refine (HO.out _).mono ?_
  rintro e w2 ⟨r, rfl, hr, hb2⟩
  go_wp2_with fail
  go_ret
  exact ⟨r, rfl, hr, hb.trans (hb2.mono hb.size)⟩
theorem opp_in {c : Nat} (hc : c = 116 ∨ c = 102 ∨ c = 117) : oppN c = 116 ∨ oppN c = 102 ∨ oppN c = 117 := by rcases hc with rfl | rfl | rfl <;> simp [oppN]
theorem tru_in (t : Bool) : truN t = 116 ∨ truN t = 102 ∨ truN t = 117 := by cases t <;> simp [truN]
set_option maxRecDepth 100000 in
set_option maxHeartbeats 1000000 in
theorem Binary_Ne (v u : Value) (s : Bool) (w : World) (c : Nat) (hc : c = 116 ∨ c = 102 ∨ c = 117) (k : Calls Tryz.prog 87 #[v, u] w fun e w' => e = .returned (.int .u8 (c : Nat)) ∧ Below w.heap.size w w') :
    Calls Tryz.prog 41 #[.int .i64 25, v, u, .bool s] w fun e w' => ∃ r, e = .returned r ∧ Row8 w' r [oneB (oppN c)] ∧ Below w.heap.size w w' := by
  have K := Lib.hid k
  have HP := Lib.hid fun w => opp_is c hc w
  have HO := Lib.hid fun w => one_is (oppN c) (opp_in hc) w
  clear k hc
  generalize oppN c = d at HP HO ⊢
  go_enter Tryz.func41, Tryz.ntmps41
  go_wp2_with fail
  refine (K.out).mono ?_
  rintro e w1 ⟨rfl, hb⟩
  go_wp2_with fail
  refine (HP.out _).mono ?_
  rintro e w1 ⟨rfl, rfl⟩
  go_wp2_with fail
  refine (HO.out _).mono ?_
  rintro e w2 ⟨r, rfl, hr, hb2⟩
  go_wp2_with fail
  go_ret
  exact ⟨r, rfl, hr, hb.trans (hb2.mono hb.size)⟩
set_option maxRecDepth 100000 in
set_option maxHeartbeats 1000000 in
theorem Binary_CaseEq (v u : Value) (s : Bool) (w : World) (t : Bool) (k : Calls Tryz.prog 89 #[v, u] w fun e w' => e = .returned (.bool t) ∧ w = w') :
    Calls Tryz.prog 41 #[.int .i64 26, v, u, .bool s] w fun e w' => ∃ r, e = .returned r ∧ Row8 w' r [oneB (truN t)] ∧ Below w.heap.size w w' := by
  have K := Lib.hid k
  have HP := Lib.hid fun w => truthOf_is t w
  have HO := Lib.hid fun w => one_is (truN t) (tru_in t) w
  clear k
  generalize truN t = d at HP HO ⊢
  go_enter Tryz.func41, Tryz.ntmps41
  go_wp2_with fail
  refine (K.out).mono ?_
  rintro e w1 ⟨rfl, rfl⟩
  go_wp2_with fail
  refine (HP.out _).mono ?_
  rintro e w1 ⟨rfl, rfl⟩
  go_wp2_with fail
  refine (HO.out _).mono ?_
  rintro e w2 ⟨r, rfl, hr, hb2⟩
  go_wp2_with fail
  go_ret
  exact ⟨r, rfl, hr, hb2⟩
set_option maxRecDepth 100000 in
set_option maxHeartbeats 1000000 in
theorem Binary_CaseNe (v u : Value) (s : Bool) (w : World) (t : Bool) (k : Calls Tryz.prog 89 #[v, u] w fun e w' => e = .returned (.bool t) ∧ w = w') :
    Calls Tryz.prog 41 #[.int .i64 27, v, u, .bool s] w fun e w' => ∃ r, e = .returned r ∧ Row8 w' r [oneB (truN (!t))] ∧ Below w.heap.size w w' := by
  have K := Lib.hid k
  have HP := Lib.hid fun w => truthOf_is (!t) w
  have HO := Lib.hid fun w => one_is (truN (!t)) (tru_in (!t)) w
  clear k
  generalize truN (!t) = d at HP HO ⊢
  go_enter Tryz.func41, Tryz.ntmps41
  go_wp2_with fail
  refine (K.out).mono ?_
  rintro e w1 ⟨rfl, rfl⟩
  go_wp2_with fail
  refine (HP.out _).mono ?_
  rintro e w1 ⟨rfl, rfl⟩
  go_wp2_with fail
  refine (HO.out _).mono ?_
  rintro e w2 ⟨r, rfl, hr, hb2⟩
  go_wp2_with fail
  go_ret
  exact ⟨r, rfl, hr, hb2⟩
set_option maxRecDepth 100000 in
set_option maxHeartbeats 1000000 in
theorem Binary_Lt_xa (v u : Value) (s : Bool) (w : World) (kv : Calls Tryz.prog 90 #[v] w fun e w' => e = .returned (.bool false) ∧ w = w') :
    Calls Tryz.prog 41 #[.int .i64 28, v, u, .bool s] w fun e w' => ∃ r, e = .returned r ∧ Row8 w' r [oneB 117] ∧ Below w.heap.size w w' := by
  have KV := Lib.hid kv
  have HO := Lib.hid fun w => one_is 117 (.inr (.inr rfl)) w
  clear kv
  go_enter Tryz.func41, Tryz.ntmps41
  go_wp2_with fail
  refine (KV.out).mono ?_
  rintro e w1 ⟨rfl, rfl⟩
  go_wp2_with fail
  refine (HO.out _).mono ?_
  rintro e w2 ⟨r, rfl, hr, hb2⟩
  go_wp2_with fail
  go_ret
  exact ⟨r, rfl, hr, hb2⟩
set_option maxRecDepth 100000 in
set_option maxHeartbeats 1000000 in
theorem Binary_Lt_xb (v u : Value) (s : Bool) (w : World) (kv : Calls Tryz.prog 90 #[v] w fun e w' => e = .returned (.bool true) ∧ w = w') (ku : Calls Tryz.prog 90 #[u] w fun e w' => e = .returned (.bool false) ∧ w = w') :
    Calls Tryz.prog 41 #[.int .i64 28, v, u, .bool s] w fun e w' => ∃ r, e = .returned r ∧ Row8 w' r [oneB 117] ∧ Below w.heap.size w w' := by
  have KV := Lib.hid kv
  have KU := Lib.hid ku
  have HO := Lib.hid fun w => one_is 117 (.inr (.inr rfl)) w
  clear kv ku
  go_enter Tryz.func41, Tryz.ntmps41
  go_wp2_with fail
  refine (KV.out).mono ?_
  rintro e w1 ⟨rfl, rfl⟩
  go_wp2_with fail
  refine (KU.out).mono ?_
  rintro e w1 ⟨rfl, rfl⟩
  go_wp2_with fail
  refine (HO.out _).mono ?_
  rintro e w2 ⟨r, rfl, hr, hb2⟩
  go_wp2_with fail
  go_ret
  exact ⟨r, rfl, hr, hb2⟩
set_option maxRecDepth 100000 in
set_option maxHeartbeats 1000000 in
theorem Binary_Le_xa (v u : Value) (s : Bool) (w : World) (kv : Calls Tryz.prog 90 #[v] w fun e w' => e = .returned (.bool false) ∧ w = w') :
    Calls Tryz.prog 41 #[.int .i64 29, v, u, .bool s] w fun e w' => ∃ r, e = .returned r ∧ Row8 w' r [oneB 117] ∧ Below w.heap.size w w' := by
  have KV := Lib.hid kv
  have HO := Lib.hid fun w => one_is 117 (.inr (.inr rfl)) w
  clear kv
  go_enter Tryz.func41, Tryz.ntmps41
  go_wp2_with fail
  refine (KV.out).mono ?_
  rintro e w1 ⟨rfl, rfl⟩
  go_wp2_with fail
  refine (HO.out _).mono ?_
  rintro e w2 ⟨r, rfl, hr, hb2⟩
  go_wp2_with fail
  go_ret
  exact ⟨r, rfl, hr, hb2⟩
set_option maxRecDepth 100000 in
set_option maxHeartbeats 1000000 in
theorem Binary_Le_xb (v u : Value) (s : Bool) (w : World) (kv : Calls Tryz.prog 90 #[v] w fun e w' => e = .returned (.bool true) ∧ w = w') (ku : Calls Tryz.prog 90 #[u] w fun e w' => e = .returned (.bool false) ∧ w = w') :
    Calls Tryz.prog 41 #[.int .i64 29, v, u, .bool s] w fun e w' => ∃ r, e = .returned r ∧ Row8 w' r [oneB 117] ∧ Below w.heap.size w w' := by
  have KV := Lib.hid kv
  have KU := Lib.hid ku
  have HO := Lib.hid fun w => one_is 117 (.inr (.inr rfl)) w
  clear kv ku
  go_enter Tryz.func41, Tryz.ntmps41
  go_wp2_with fail
  refine (KV.out).mono ?_
  rintro e w1 ⟨rfl, rfl⟩
  go_wp2_with fail
  refine (KU.out).mono ?_
  rintro e w1 ⟨rfl, rfl⟩
  go_wp2_with fail
  refine (HO.out _).mono ?_
  rintro e w2 ⟨r, rfl, hr, hb2⟩
  go_wp2_with fail
  go_ret
  exact ⟨r, rfl, hr, hb2⟩
set_option maxRecDepth 100000 in
set_option maxHeartbeats 2000000 in
theorem Binary_Lt_k (v u : Value) (s : Bool) (w : World) (t : Bool) (kv : Calls Tryz.prog 90 #[v] w fun e w' => e = .returned (.bool true) ∧ w = w') (ku : Calls Tryz.prog 90 #[u] w fun e w' => e = .returned (.bool true) ∧ w = w') (kb : Calls Tryz.prog 91 #[v, u, .bool s] w fun e w' => e = .returned (.bool t) ∧ Below w.heap.size w w') :
    Calls Tryz.prog 41 #[.int .i64 28, v, u, .bool s] w fun e w' => ∃ r, e = .returned r ∧ Row8 w' r [oneB (truN t)] ∧ Below w.heap.size w w' := by
  have KV := Lib.hid kv
  have KU := Lib.hid ku
  have KB := Lib.hid kb
  have HP := Lib.hid fun w => truthOf_is t w
  have HO := Lib.hid fun w => one_is (truN t) (tru_in _) w
  clear kv ku kb
  cases t <;>
  · skip
    go_enter Tryz.func41, Tryz.ntmps41
    go_wp2_with fail
    refine KV.out.mono ?_
    rintro e w1 ⟨rfl, rfl⟩
    go_wp2_with fail
    refine KU.out.mono ?_
    rintro e w1 ⟨rfl, rfl⟩
    go_wp2_with fail
    refine KB.out.mono ?_
    rintro e w1 ⟨rfl, hb⟩
    go_wp2_with fail
    refine (HP.out _).mono ?_
    rintro e w1 ⟨rfl, rfl⟩
    go_wp2_with fail
    refine (HO.out _).mono ?_
    rintro e w2 ⟨r, rfl, hr, hb2⟩
    go_wp2_with fail
    go_ret
    exact ⟨r, rfl, hr, hb.trans (hb2.mono hb.size)⟩
set_option maxRecDepth 100000 in
set_option maxHeartbeats 1000000 in
theorem Binary_Le_t (v u : Value) (s : Bool) (w : World) (kv : Calls Tryz.prog 90 #[v] w fun e w' => e = .returned (.bool true) ∧ w = w') (ku : Calls Tryz.prog 90 #[u] w fun e w' => e = .returned (.bool true) ∧ w = w') (kb : Calls Tryz.prog 91 #[v, u, .bool s] w fun e w' => e = .returned (.bool true) ∧ Below w.heap.size w w') :
    Calls Tryz.prog 41 #[.int .i64 29, v, u, .bool s] w fun e w' => ∃ r, e = .returned r ∧ Row8 w' r [oneB (truN true)] ∧ Below w.heap.size w w' := by
  have KV := Lib.hid kv
  have KU := Lib.hid ku
  have KB := Lib.hid kb
  have HP := Lib.hid fun w => truthOf_is true w
  have HO := Lib.hid fun w => one_is (truN true) (tru_in _) w
  clear kv ku kb
  go_enter Tryz.func41, Tryz.ntmps41
  go_wp2_with fail
  refine KV.out.mono ?_
  rintro e w1 ⟨rfl, rfl⟩
  go_wp2_with fail
  refine KU.out.mono ?_
  rintro e w1 ⟨rfl, rfl⟩
  go_wp2_with fail
  refine KB.out.mono ?_
  rintro e w1 ⟨rfl, hb⟩
  go_wp2_with fail
  refine (HP.out _).mono ?_
  rintro e w1 ⟨rfl, rfl⟩
  go_wp2_with fail
  refine (HO.out _).mono ?_
  rintro e w2 ⟨r, rfl, hr, hb2⟩
  go_wp2_with fail
  go_ret
  exact ⟨r, rfl, hr, hb.trans (hb2.mono hb.size)⟩
set_option maxRecDepth 100000 in
set_option maxHeartbeats 2000000 in
theorem Binary_Le_f (v u : Value) (s : Bool) (w : World) (q : Bool) (kv : Calls Tryz.prog 90 #[v] w fun e w' => e = .returned (.bool true) ∧ w = w') (ku : Calls Tryz.prog 90 #[u] w fun e w' => e = .returned (.bool true) ∧ w = w') (kb : Calls Tryz.prog 91 #[v, u, .bool s] w fun e w' => e = .returned (.bool false) ∧ Below w.heap.size w w') (hs : ∀ w', Below w.heap.size w w' → Calls Tryz.prog 89 #[v, u] w' fun e w1 => e = .returned (.bool q) ∧ w' = w1) :
    Calls Tryz.prog 41 #[.int .i64 29, v, u, .bool s] w fun e w' => ∃ r, e = .returned r ∧ Row8 w' r [oneB (truN q)] ∧ Below w.heap.size w w' := by
  have KV := Lib.hid kv
  have KU := Lib.hid ku
  have KB := Lib.hid kb
  have HP := Lib.hid fun w => truthOf_is q w
  have HO := Lib.hid fun w => one_is (truN q) (tru_in _) w
  clear kv ku kb
  have HS := Lib.hid hs
  clear hs
  go_enter Tryz.func41, Tryz.ntmps41
  go_wp2_with fail
  refine KV.out.mono ?_
  rintro e w1 ⟨rfl, rfl⟩
  go_wp2_with fail
  refine KU.out.mono ?_
  rintro e w1 ⟨rfl, rfl⟩
  go_wp2_with fail
  refine KB.out.mono ?_
  rintro e w1 ⟨rfl, hb⟩
  go_wp2_with fail
  refine (HS.out _ hb).mono ?_
  rintro e w1 ⟨rfl, rfl⟩
  go_wp2_with fail
  refine (HP.out _).mono ?_
  rintro e w1 ⟨rfl, rfl⟩
  go_wp2_with fail
  refine (HO.out _).mono ?_
  rintro e w2 ⟨r, rfl, hr, hb2⟩
  go_wp2_with fail
  go_ret
  exact ⟨r, rfl, hr, hb.trans (hb2.mono hb.size)⟩
theorem okc_strict {op : Int} (h : looseB op = false) (a b : Rb) : okc op a b = alikeB a b := by unfold okc alikeB; rw [h, Bool.false_or]
theorem cmR_ok {f : Vx → Vx → Vx} {a b : Rb} (h : alikeB a b = true) : cmR f a b = ⟨1, (f ⟨a.v, a.x⟩ ⟨b.v, b.x⟩).v, (f ⟨a.v, a.x⟩ ⟨b.v, b.x⟩).x⟩ := by unfold cmR; rw [h]; rfl
theorem cmR_no {f : Vx → Vx → Vx} {a b : Rb} (h : alikeB a b = false) : cmR f a b = ZR := by unfold cmR; rw [h]; rfl
theorem lnotR_z : lnotR ZR = ZR := rfl
theorem lnotR_ok {q : Vx} (h : q.ok 1) : lnotR ⟨1, q.v, q.x⟩ = ⟨1, (vlnot q).v, (vlnot q).x⟩ := by
  unfold lnotR; rw [show (⟨1, q.v, q.x⟩ : Rb).okB = true from Rb.okB_of (n := 1) h]; rfl
theorem alike_sym (a b : Rb) : alikeB a b = alikeB b a := by
  unfold alikeB
  rw [Bool.and_comm a.okB, show decide (a.W = b.W) = decide (b.W = a.W) from by rw [Bool.eq_iff_iff, decide_eq_true_eq, decide_eq_true_eq]; exact eq_comm]
theorem lf1 {w w' : World} {P : Rb} {c : Nat} {e : Ending} (hP : Bl [oneB c] = P) (h : ∃ r, e = .returned r ∧ Row8 w' r [oneB c] ∧ Below w.heap.size w w') : ∃ r, e = .returned r ∧ (∃ l, Row8 w' r l ∧ Bl l = P ∧ l.length ≤ 1000000) ∧ Below w.heap.size w w' := by
  obtain ⟨r, he, hr, hb⟩ := h
  exact ⟨r, he, ⟨_, hr, hP, by simp⟩, hb⟩
theorem tr_in (t : Bool) : tr t = tr true ∨ tr t = tr false ∨ tr t = fl 1 3 := by cases t; exact .inr (.inl rfl); exact .inl rfl
theorem veq_ok1 (a b : Vx) : (veq a b).ok 1 := by
  rcases veq_in a b with h | h | h <;> rw [h]
  · exact tr_ok _
  · exact tr_ok _
  · exact fl_ok (by decide) (by decide) 3
theorem fact_Eq (a b : Rb) (s : Bool) : OpFact a b s 24 (cmR veq a b) := by
  refine ⟨fun w => binary_Eq a b _ s (fun w => eq_any a b w) w, fun hk w v u h h' => ?_, fun hk => ?_⟩
  rotate_left
  · rw [okc_strict rfl] at hk
    rw [cmR_no hk]
  rw [okc_strict rfl] at hk
  obtain ⟨n, en, em, oa, ob⟩ := alike_of hk
  obtain ⟨aW, av, ax⟩ := a
  obtain ⟨bW, bv, bx⟩ := b
  obtain rfl : aW = n := en
  obtain rfl : bW = n := em
  have n1 := oa.lo
  have n2 := oa.hi
  unfold vR at h h'
  rw [Int.toNat_natCast] at h h'
  have c := compared_is v u _ _ (by rw [vl_len, vl_len]) (by rw [vl_len]; omega) w h h'
  rw [vl_len] at c
  refine (Binary_Eq v u s w _ (cmpK_in _ _ _) c).mono fun e w' hh => lf1 ?_ hh
  rw [cmR_ok hk]; exact cmp_vl oa ob
theorem fact_Ne (a b : Rb) (s : Bool) : OpFact a b s 25 (lnotR (cmR veq a b)) := by
  refine ⟨fun w => binary_Ne a b _ s (fun w => ne_any a b w) w, fun hk w v u h h' => ?_, fun hk => ?_⟩
  rotate_left
  · rw [okc_strict rfl] at hk
    rw [cmR_no hk, lnotR_z]
  rw [okc_strict rfl] at hk
  obtain ⟨n, en, em, oa, ob⟩ := alike_of hk
  obtain ⟨aW, av, ax⟩ := a
  obtain ⟨bW, bv, bx⟩ := b
  obtain rfl : aW = n := en
  obtain rfl : bW = n := em
  have n1 := oa.lo
  have n2 := oa.hi
  unfold vR at h h'
  rw [Int.toNat_natCast] at h h'
  have c := compared_is v u _ _ (by rw [vl_len, vl_len]) (by rw [vl_len]; omega) w h h'
  rw [vl_len] at c
  refine (Binary_Ne v u s w _ (cmpK_in _ _ _) c).mono fun e w' hh => lf1 ?_ hh
  rw [cmR_ok hk, lnotR_ok (veq_ok1 _ _)]; exact ne_vl oa ob
theorem fact_CaseEq (a b : Rb) (s : Bool) : OpFact a b s 26 (cmR vceq a b) := by
  refine ⟨fun w => binary_CaseEq a b _ s (fun w => ceq_any a b w) w, fun hk w v u h h' => ?_, fun hk => ?_⟩
  rotate_left
  · rw [okc_strict rfl] at hk
    rw [cmR_no hk]
  rw [okc_strict rfl] at hk
  obtain ⟨n, en, em, oa, ob⟩ := alike_of hk
  obtain ⟨aW, av, ax⟩ := a
  obtain ⟨bW, bv, bx⟩ := b
  obtain rfl : aW = n := en
  obtain rfl : bW = n := em
  have n1 := oa.lo
  have n2 := oa.hi
  unfold vR at h h'
  rw [Int.toNat_natCast] at h h'
  have c := same_is v u _ _ (by rw [vl_len]; omega) (by rw [vl_len]; omega) w h h'
  rw [vl_eq (a := ⟨av, ax⟩) (b := ⟨bv, bx⟩) oa ob] at c
  refine (Binary_CaseEq v u s w _ c).mono fun e w' hh => lf1 ?_ hh
  rw [cmR_ok hk]; exact Bl_tr _
theorem fact_CaseNe (a b : Rb) (s : Bool) : OpFact a b s 27 (lnotR (cmR vceq a b)) := by
  refine ⟨fun w => binary_CaseNe a b _ s (fun w => cne_any a b w) w, fun hk w v u h h' => ?_, fun hk => ?_⟩
  rotate_left
  · rw [okc_strict rfl] at hk
    rw [cmR_no hk, lnotR_z]
  rw [okc_strict rfl] at hk
  obtain ⟨n, en, em, oa, ob⟩ := alike_of hk
  obtain ⟨aW, av, ax⟩ := a
  obtain ⟨bW, bv, bx⟩ := b
  obtain rfl : aW = n := en
  obtain rfl : bW = n := em
  have n1 := oa.lo
  have n2 := oa.hi
  unfold vR at h h'
  rw [Int.toNat_natCast] at h h'
  have c := same_is v u _ _ (by rw [vl_len]; omega) (by rw [vl_len]; omega) w h h'
  rw [vl_eq (a := ⟨av, ax⟩) (b := ⟨bv, bx⟩) oa ob] at c
  refine (Binary_CaseNe v u s w _ c).mono fun e w' hh => lf1 ?_ hh
  rw [cmR_ok hk]
  show _ = lnotR (⟨1, (tr (av == bv && ax == bx)).v, (tr (av == bv && ax == bx)).x⟩ : Rb)
  rw [lnotR_ok (tr_ok _), lnot_tr]; exact Bl_tr _
theorem fact_Lt (a b : Rb) (s : Bool) : OpFact a b s 28 (cmR (vlt a.W.toNat s) a b) := by
  refine ⟨fun w => binary_Lt a b _ s (fun w => lt_any a b s w) w, fun hk w v u h h' => ?_, fun hk => ?_⟩
  rotate_left
  · rw [okc_strict rfl] at hk
    rw [cmR_no hk]
  rw [okc_strict rfl] at hk
  obtain ⟨n, en, em, oa, ob⟩ := alike_of hk
  obtain ⟨aW, av, ax⟩ := a
  obtain ⟨bW, bv, bx⟩ := b
  obtain rfl : aW = n := en
  obtain rfl : bW = n := em
  have n1 := oa.lo
  have n2 := oa.hi
  unfold vR at h h'
  rw [Int.toNat_natCast] at h h'
  have kv := known_row (a := ⟨av, ax⟩) oa _ rfl v w h
  have ku := known_row (a := ⟨bv, bx⟩) ob _ rfl u w h'
  by_cases hx : ax = 0#64
  rotate_left
  · have hx' : (ax == 0#64) = false := by simpa using hx
    rw [show ((⟨av, ax⟩ : Vx).x == 0#64) = false from hx'] at kv
    refine (Binary_Lt_xa v u s w kv).mono fun e w' hh => lf1 ?_ hh
    rw [cmR_ok hk]
    have : vlt n s ⟨av, ax⟩ ⟨bv, bx⟩ = fl 1 3 := by unfold vlt; rw [if_neg (fun e => hx e.1)]
    show _ = (⟨1, (vlt n s ⟨av, ax⟩ ⟨bv, bx⟩).v, (vlt n s ⟨av, ax⟩ ⟨bv, bx⟩).x⟩ : Rb)
    rw [this]; exact Bl_x
  rw [show ((⟨av, ax⟩ : Vx).x == 0#64) = true from by simpa using hx] at kv
  by_cases hy : bx = 0#64
  rotate_left
  · have hy' : (bx == 0#64) = false := by simpa using hy
    rw [show ((⟨bv, bx⟩ : Vx).x == 0#64) = false from hy'] at ku
    refine (Binary_Lt_xb v u s w kv ku).mono fun e w' hh => lf1 ?_ hh
    rw [cmR_ok hk]
    have : vlt n s ⟨av, ax⟩ ⟨bv, bx⟩ = fl 1 3 := by unfold vlt; rw [if_neg (fun e => hy e.2)]
    show _ = (⟨1, (vlt n s ⟨av, ax⟩ ⟨bv, bx⟩).v, (vlt n s ⟨av, ax⟩ ⟨bv, bx⟩).x⟩ : Rb)
    rw [this]; exact Bl_x
  rw [show ((⟨bv, bx⟩ : Vx).x == 0#64) = true from by simpa using hy] at ku
  have kb := below_is v u _ _ s (by rw [vl_len, vl_len]) (by rw [vl_len]; omega) w h h'
  rw [vl_len, bel_vl (a := ⟨av, ax⟩) (b := ⟨bv, bx⟩) s oa ob hx hy] at kb
  refine (Binary_Lt_k v u s w _ kv ku kb).mono fun e w' hh => lf1 ?_ hh
  rw [cmR_ok hk]
  show _ = (⟨1, (vlt n s ⟨av, ax⟩ ⟨bv, bx⟩).v, (vlt n s ⟨av, ax⟩ ⟨bv, bx⟩).x⟩ : Rb)
  have : vlt n s ⟨av, ax⟩ ⟨bv, bx⟩ = tr (ltb n s ⟨av, ax⟩ ⟨bv, bx⟩) := by unfold vlt; rw [if_pos ⟨hx, hy⟩]
  rw [this]; exact Bl_tr _
theorem fact_Le (a b : Rb) (s : Bool) : OpFact a b s 29 (lnotR (cmR (vlt b.W.toNat s) b a)) := by
  refine ⟨fun w => binary_Le a b _ s (fun w => le_any a b s w) w, fun hk w v u h h' => ?_, fun hk => ?_⟩
  rotate_left
  · rw [okc_strict rfl] at hk
    rw [cmR_no (by rw [alike_sym]; exact hk), lnotR_z]
  rw [okc_strict rfl] at hk
  obtain ⟨n, en, em, oa, ob⟩ := alike_of hk
  obtain ⟨aW, av, ax⟩ := a
  obtain ⟨bW, bv, bx⟩ := b
  obtain rfl : aW = n := en
  obtain rfl : bW = n := em
  have n1 := oa.lo
  have n2 := oa.hi
  unfold vR at h h'
  rw [Int.toNat_natCast] at h h'
  have kv := known_row (a := ⟨av, ax⟩) oa _ rfl v w h
  have ku := known_row (a := ⟨bv, bx⟩) ob _ rfl u w h'
  by_cases hx : ax = 0#64
  rotate_left
  · have hx' : (ax == 0#64) = false := by simpa using hx
    rw [show ((⟨av, ax⟩ : Vx).x == 0#64) = false from hx'] at kv
    refine (Binary_Le_xa v u s w kv).mono fun e w' hh => lf1 ?_ hh
    rw [cmR_ok (a := ⟨n, bv, bx⟩) (b := ⟨n, av, ax⟩) (by rw [alike_sym]; exact hk)]
    have : vlt n s ⟨bv, bx⟩ ⟨av, ax⟩ = fl 1 3 := by unfold vlt; rw [if_neg (fun e => hx e.2)]
    show _ = lnotR (⟨1, (vlt n s ⟨bv, bx⟩ ⟨av, ax⟩).v, (vlt n s ⟨bv, bx⟩ ⟨av, ax⟩).x⟩ : Rb)
    rw [this, lnotR_ok (fl_ok (by decide) (by decide) 3), lnot_x]; exact Bl_x
  rw [show ((⟨av, ax⟩ : Vx).x == 0#64) = true from by simpa using hx] at kv
  by_cases hy : bx = 0#64
  rotate_left
  · have hy' : (bx == 0#64) = false := by simpa using hy
    rw [show ((⟨bv, bx⟩ : Vx).x == 0#64) = false from hy'] at ku
    refine (Binary_Le_xb v u s w kv ku).mono fun e w' hh => lf1 ?_ hh
    rw [cmR_ok (a := ⟨n, bv, bx⟩) (b := ⟨n, av, ax⟩) (by rw [alike_sym]; exact hk)]
    have : vlt n s ⟨bv, bx⟩ ⟨av, ax⟩ = fl 1 3 := by unfold vlt; rw [if_neg (fun e => hy e.1)]
    show _ = lnotR (⟨1, (vlt n s ⟨bv, bx⟩ ⟨av, ax⟩).v, (vlt n s ⟨bv, bx⟩ ⟨av, ax⟩).x⟩ : Rb)
    rw [this, lnotR_ok (fl_ok (by decide) (by decide) 3), lnot_x]; exact Bl_x
  rw [show ((⟨bv, bx⟩ : Vx).x == 0#64) = true from by simpa using hy] at ku
  have kb := below_is v u _ _ s (by rw [vl_len, vl_len]) (by rw [vl_len]; omega) w h h'
  rw [vl_len, bel_vl (a := ⟨av, ax⟩) (b := ⟨bv, bx⟩) s oa ob hx hy] at kb
  have key : ∀ c : Nat, c = truN (!ltb n s ⟨bv, bx⟩ ⟨av, ax⟩) → Bl [oneB c] = lnotR (cmR (vlt ((⟨n, bv, bx⟩ : Rb).W).toNat s) ⟨n, bv, bx⟩ ⟨n, av, ax⟩) := fun c hc => by
    rw [cmR_ok (a := ⟨n, bv, bx⟩) (b := ⟨n, av, ax⟩) (by rw [alike_sym]; exact hk)]
    show _ = lnotR (⟨1, (vlt n s ⟨bv, bx⟩ ⟨av, ax⟩).v, (vlt n s ⟨bv, bx⟩ ⟨av, ax⟩).x⟩ : Rb)
    have : vlt n s ⟨bv, bx⟩ ⟨av, ax⟩ = tr (ltb n s ⟨bv, bx⟩ ⟨av, ax⟩) := by unfold vlt; rw [if_pos ⟨hy, hx⟩]
    rw [this, lnotR_ok (tr_ok _), lnot_tr, hc]; exact Bl_tr _
  rw [le_lt (a := ⟨av, ax⟩) (b := ⟨bv, bx⟩) s oa ob hx hy] at key
  cases hlt : ltb n s ⟨av, ax⟩ ⟨bv, bx⟩
  · rw [hlt] at kb key
    refine (Binary_Le_f v u s w (av == bv && ax == bx) kv ku kb (fun w' hb => ?_)).mono fun e w' hh => lf1 (key _ (by rw [Bool.false_or])) hh
    have c := same_is v u _ _ (by rw [vl_len]; omega) (by rw [vl_len]; omega) w' (h.below hb) (h'.below hb)
    rw [vl_eq (a := ⟨av, ax⟩) (b := ⟨bv, bx⟩) oa ob] at c
    exact c
  · rw [hlt] at kb key
    exact (Binary_Le_t v u s w kv ku kb).mono fun e w' hh => lf1 (key _ (by rw [Bool.true_or])) hh
set_option maxRecDepth 100000 in
set_option maxHeartbeats 2000000 in
theorem bitsCompared_any {B : Nat} (a b : Rb) (s : Bool) (w : World) (hG : Glob B w) : Calls Tryz.prog 6 #[.agg #[.int .i64 a.W, .int .u64 (U a.v), .int .u64 (U a.x)], .agg #[.int .i64 b.W, .int .u64 (U b.v), .int .u64 (U b.x)], .bool s] w fun e w' => e = .returned (.bool true) ∧ Below w.heap.size w w' := by
  have HG := Lib.hid hG
  have HP := Lib.hid fun v w hv => pair_ok [24, 25, 26, 27, 28, 29] (by decide) v a b s w hv (fun op ho => by
    simp only [List.mem_cons, List.not_mem_nil, or_false] at ho
    rcases ho with rfl | rfl | rfl | rfl | rfl | rfl
    · exact ⟨_, fact_Eq a b s⟩
    · exact ⟨_, fact_Ne a b s⟩
    · exact ⟨_, fact_CaseEq a b s⟩
    · exact ⟨_, fact_CaseNe a b s⟩
    · exact ⟨_, fact_Lt a b s⟩
    · exact ⟨_, fact_Le a b s⟩)
  clear hG
  go_enter Tryz.func6, Tryz.ntmps6
  go_wp2_with fail
  have T := px_new (w := w) a b
  generalize ((w.alloc (Obj.cells #[Value.int IntKind.i64 a.W, Value.int IntKind.u64 (U a.v), Value.int IntKind.u64 (U a.x)] 24)).alloc (Obj.cells #[Value.int IntKind.i64 b.W, Value.int IntKind.u64 (U b.v), Value.int IntKind.u64 (U b.x)] 24)) = w0 at T ⊢
  refine (vectors_ok _ (HG.out.here T.lo)).mono ?_
  rintro e w1 ⟨rfl, hb⟩
  replace T := T.below hb
  clear hb
  obtain ⟨⟨a0, a1, a2, af⟩, ⟨b0, b1, b2, bf⟩, lo⟩ := id T
  have z0 := T.ba.lt
  have z1 := T.bb.lt
  go_wp2_with fail
  refine (HP.out _ _ ⟨_, _, _, rfl, fun q hq => ?_⟩).mono ?_
  · match q, hq with
    | 0, _ => go_simp
    | 1, _ => go_simp
    | 2, _ => go_simp
    | 3, _ => go_simp
    | 4, _ => go_simp
    | 5, _ => go_simp
  rintro e w2 ⟨rfl, hb⟩
  have lo2 : Below w.heap.size w w2 := (lo.alloc lo.size _).trans (hb.mono (lo.alloc lo.size _).size)
  clear hb a0 a1 a2 af b0 b1 b2 bf lo T
  go_wp2_with fail
  go_ret
  exact ⟨rfl, lo2⟩
end Go.Proofs.YtodldcdfdjooaaaGreatDoor
