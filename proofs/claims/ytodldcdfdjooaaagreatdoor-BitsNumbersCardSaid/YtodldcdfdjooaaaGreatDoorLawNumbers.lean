/- The law BitsNumbers: its walk. -/
import Derived.Test.YtodldcdfdjooaaaGreatDoorNumAll
import Derived.Test.YtodldcdfdjooaaaGreatDoorNumProg
import Derived.Test.YtodldcdfdjooaaaGreatDoorPair
import Derived.Test.YtodldcdfdjooaaaGreatDoorVectors
import Derived.Deep.CutBlock
import Derived.Deep.DeepCutAuto
namespace Go.Proofs.YtodldcdfdjooaaaGreatDoor
open Go Go.RowKit Go.Sort
set_option linter.unusedVariables false
set_option maxRecDepth 100000 in
set_option maxHeartbeats 1000000 in
theorem binary_Add (a b P : Rb) (s : Bool) (c : ∀ w, Calls Tryz.prog 40 #[.agg #[.int .i64 a.W, .int .u64 (U a.v), .int .u64 (U a.x)], .agg #[.int .i64 b.W, .int .u64 (U b.v), .int .u64 (U b.x)]] w fun e w' => e = .returned (.agg #[.int .i64 P.W, .int .u64 (U P.v), .int .u64 (U P.x)]) ∧ Below w.heap.size w w') (w : World) : Calls Tryz.prog 42 #[.int .i64 16, .agg #[.int .i64 a.W, .int .u64 (U a.v), .int .u64 (U a.x)], .agg #[.int .i64 b.W, .int .u64 (U b.v), .int .u64 (U b.x)], .bool s] w fun e w' => e = .returned (.agg #[.int .i64 P.W, .int .u64 (U P.v), .int .u64 (U P.x)]) ∧ Below w.heap.size w w' := by
  obtain ⟨aW, av, ax⟩ := a
  obtain ⟨bW, bv, bx⟩ := b
  have vc := Lib.hid c
  clear c
  show Calls Tryz.prog 42 #[.int .i64 16, .agg #[.int .i64 aW, .int .u64 (U av), .int .u64 (U ax)], .agg #[.int .i64 bW, .int .u64 (U bv), .int .u64 (U bx)], .bool s] w _
  go_enter Tryz.func42, Tryz.ntmps42
  go_wp2_with fail
  have C := tb_new (w := w) ⟨aW, av, ax⟩ ⟨bW, bv, bx⟩
  generalize (((w.alloc (Obj.cells #[Value.int IntKind.i64 aW, Value.int IntKind.u64 (U av), Value.int IntKind.u64 (U ax)] 24)).alloc (Obj.cells #[Value.int IntKind.i64 bW, Value.int IntKind.u64 (U bv), Value.int IntKind.u64 (U bx)] 24)).alloc (Obj.cells #[Value.int IntKind.i64 0, Value.int IntKind.u64 0, Value.int IntKind.u64 0] 24)) = W at C ⊢
  obtain ⟨⟨a0, a1, a2, af⟩, ⟨b0, b1, b2, bf⟩, ⟨p0, p1, p2, pf⟩, lo⟩ := id C
  go_wp2_with fail
  refine (vc.out _).mono ?_
  rintro e W1 ⟨rfl, hb⟩
  replace C := C.below hb
  clear a0 a1 a2 af b0 b1 b2 bf p0 p1 p2 pf lo hb
  obtain ⟨⟨a0, a1, a2, af⟩, ⟨b0, b1, b2, bf⟩, ⟨p0, p1, p2, pf⟩, lo⟩ := id C
  go_wp2_with fail
  replace C := C.put P.W (U P.v) (U P.x)
  clear a0 a1 a2 af b0 b1 b2 bf p0 p1 p2 pf lo
  obtain ⟨⟨a0, a1, a2, af⟩, ⟨b0, b1, b2, bf⟩, ⟨p0, p1, p2, pf⟩, lo⟩ := C
  exact bodyPost_ret (v := .agg #[.int .i64 P.W, .int .u64 (U P.v), .int .u64 (U P.x)]) (by simp [results, Tryz.results42, go_sem, p0, p1, p2]) rfl ⟨rfl, lo⟩
set_option maxRecDepth 100000 in
set_option maxHeartbeats 1000000 in
theorem binary_Sub (a b P : Rb) (s : Bool) (c : ∀ w, Calls Tryz.prog 43 #[.agg #[.int .i64 a.W, .int .u64 (U a.v), .int .u64 (U a.x)], .agg #[.int .i64 b.W, .int .u64 (U b.v), .int .u64 (U b.x)]] w fun e w' => e = .returned (.agg #[.int .i64 P.W, .int .u64 (U P.v), .int .u64 (U P.x)]) ∧ Below w.heap.size w w') (w : World) : Calls Tryz.prog 42 #[.int .i64 17, .agg #[.int .i64 a.W, .int .u64 (U a.v), .int .u64 (U a.x)], .agg #[.int .i64 b.W, .int .u64 (U b.v), .int .u64 (U b.x)], .bool s] w fun e w' => e = .returned (.agg #[.int .i64 P.W, .int .u64 (U P.v), .int .u64 (U P.x)]) ∧ Below w.heap.size w w' := by
  obtain ⟨aW, av, ax⟩ := a
  obtain ⟨bW, bv, bx⟩ := b
  have vc := Lib.hid c
  clear c
  show Calls Tryz.prog 42 #[.int .i64 17, .agg #[.int .i64 aW, .int .u64 (U av), .int .u64 (U ax)], .agg #[.int .i64 bW, .int .u64 (U bv), .int .u64 (U bx)], .bool s] w _
  go_enter Tryz.func42, Tryz.ntmps42
  go_wp2_with fail
  have C := tb_new (w := w) ⟨aW, av, ax⟩ ⟨bW, bv, bx⟩
  generalize (((w.alloc (Obj.cells #[Value.int IntKind.i64 aW, Value.int IntKind.u64 (U av), Value.int IntKind.u64 (U ax)] 24)).alloc (Obj.cells #[Value.int IntKind.i64 bW, Value.int IntKind.u64 (U bv), Value.int IntKind.u64 (U bx)] 24)).alloc (Obj.cells #[Value.int IntKind.i64 0, Value.int IntKind.u64 0, Value.int IntKind.u64 0] 24)) = W at C ⊢
  obtain ⟨⟨a0, a1, a2, af⟩, ⟨b0, b1, b2, bf⟩, ⟨p0, p1, p2, pf⟩, lo⟩ := id C
  go_wp2_with fail
  refine (vc.out _).mono ?_
  rintro e W1 ⟨rfl, hb⟩
  replace C := C.below hb
  clear a0 a1 a2 af b0 b1 b2 bf p0 p1 p2 pf lo hb
  obtain ⟨⟨a0, a1, a2, af⟩, ⟨b0, b1, b2, bf⟩, ⟨p0, p1, p2, pf⟩, lo⟩ := id C
  go_wp2_with fail
  replace C := C.put P.W (U P.v) (U P.x)
  clear a0 a1 a2 af b0 b1 b2 bf p0 p1 p2 pf lo
  obtain ⟨⟨a0, a1, a2, af⟩, ⟨b0, b1, b2, bf⟩, ⟨p0, p1, p2, pf⟩, lo⟩ := C
  exact bodyPost_ret (v := .agg #[.int .i64 P.W, .int .u64 (U P.v), .int .u64 (U P.x)]) (by simp [results, Tryz.results42, go_sem, p0, p1, p2]) rfl ⟨rfl, lo⟩
set_option maxRecDepth 100000 in
set_option maxHeartbeats 1000000 in
theorem binary_Mul (a b P : Rb) (s : Bool) (c : ∀ w, Calls Tryz.prog 53 #[.agg #[.int .i64 a.W, .int .u64 (U a.v), .int .u64 (U a.x)], .agg #[.int .i64 b.W, .int .u64 (U b.v), .int .u64 (U b.x)]] w fun e w' => e = .returned (.agg #[.int .i64 P.W, .int .u64 (U P.v), .int .u64 (U P.x)]) ∧ Below w.heap.size w w') (w : World) : Calls Tryz.prog 42 #[.int .i64 18, .agg #[.int .i64 a.W, .int .u64 (U a.v), .int .u64 (U a.x)], .agg #[.int .i64 b.W, .int .u64 (U b.v), .int .u64 (U b.x)], .bool s] w fun e w' => e = .returned (.agg #[.int .i64 P.W, .int .u64 (U P.v), .int .u64 (U P.x)]) ∧ Below w.heap.size w w' := by
  obtain ⟨aW, av, ax⟩ := a
  obtain ⟨bW, bv, bx⟩ := b
  have vc := Lib.hid c
  clear c
  show Calls Tryz.prog 42 #[.int .i64 18, .agg #[.int .i64 aW, .int .u64 (U av), .int .u64 (U ax)], .agg #[.int .i64 bW, .int .u64 (U bv), .int .u64 (U bx)], .bool s] w _
  go_enter Tryz.func42, Tryz.ntmps42
  go_wp2_with fail
  have C := tb_new (w := w) ⟨aW, av, ax⟩ ⟨bW, bv, bx⟩
  generalize (((w.alloc (Obj.cells #[Value.int IntKind.i64 aW, Value.int IntKind.u64 (U av), Value.int IntKind.u64 (U ax)] 24)).alloc (Obj.cells #[Value.int IntKind.i64 bW, Value.int IntKind.u64 (U bv), Value.int IntKind.u64 (U bx)] 24)).alloc (Obj.cells #[Value.int IntKind.i64 0, Value.int IntKind.u64 0, Value.int IntKind.u64 0] 24)) = W at C ⊢
  obtain ⟨⟨a0, a1, a2, af⟩, ⟨b0, b1, b2, bf⟩, ⟨p0, p1, p2, pf⟩, lo⟩ := id C
  go_wp2_with fail
  refine (vc.out _).mono ?_
  rintro e W1 ⟨rfl, hb⟩
  replace C := C.below hb
  clear a0 a1 a2 af b0 b1 b2 bf p0 p1 p2 pf lo hb
  obtain ⟨⟨a0, a1, a2, af⟩, ⟨b0, b1, b2, bf⟩, ⟨p0, p1, p2, pf⟩, lo⟩ := id C
  go_wp2_with fail
  replace C := C.put P.W (U P.v) (U P.x)
  clear a0 a1 a2 af b0 b1 b2 bf p0 p1 p2 pf lo
  obtain ⟨⟨a0, a1, a2, af⟩, ⟨b0, b1, b2, bf⟩, ⟨p0, p1, p2, pf⟩, lo⟩ := C
  exact bodyPost_ret (v := .agg #[.int .i64 P.W, .int .u64 (U P.v), .int .u64 (U P.x)]) (by simp [results, Tryz.results42, go_sem, p0, p1, p2]) rfl ⟨rfl, lo⟩
set_option maxRecDepth 100000 in
set_option maxHeartbeats 1000000 in
theorem binary_Div (a b P : Rb) (s : Bool) (c : ∀ w, Calls Tryz.prog 94 #[.agg #[.int .i64 a.W, .int .u64 (U a.v), .int .u64 (U a.x)], .agg #[.int .i64 b.W, .int .u64 (U b.v), .int .u64 (U b.x)], .bool s] w fun e w' => e = .returned (.agg #[.int .i64 P.W, .int .u64 (U P.v), .int .u64 (U P.x)]) ∧ Below w.heap.size w w') (w : World) : Calls Tryz.prog 42 #[.int .i64 19, .agg #[.int .i64 a.W, .int .u64 (U a.v), .int .u64 (U a.x)], .agg #[.int .i64 b.W, .int .u64 (U b.v), .int .u64 (U b.x)], .bool s] w fun e w' => e = .returned (.agg #[.int .i64 P.W, .int .u64 (U P.v), .int .u64 (U P.x)]) ∧ Below w.heap.size w w' := by
  obtain ⟨aW, av, ax⟩ := a
  obtain ⟨bW, bv, bx⟩ := b
  have vc := Lib.hid c
  clear c
  show Calls Tryz.prog 42 #[.int .i64 19, .agg #[.int .i64 aW, .int .u64 (U av), .int .u64 (U ax)], .agg #[.int .i64 bW, .int .u64 (U bv), .int .u64 (U bx)], .bool s] w _
  go_enter Tryz.func42, Tryz.ntmps42
  go_wp2_with fail
  have C := tb_new (w := w) ⟨aW, av, ax⟩ ⟨bW, bv, bx⟩
  generalize (((w.alloc (Obj.cells #[Value.int IntKind.i64 aW, Value.int IntKind.u64 (U av), Value.int IntKind.u64 (U ax)] 24)).alloc (Obj.cells #[Value.int IntKind.i64 bW, Value.int IntKind.u64 (U bv), Value.int IntKind.u64 (U bx)] 24)).alloc (Obj.cells #[Value.int IntKind.i64 0, Value.int IntKind.u64 0, Value.int IntKind.u64 0] 24)) = W at C ⊢
  obtain ⟨⟨a0, a1, a2, af⟩, ⟨b0, b1, b2, bf⟩, ⟨p0, p1, p2, pf⟩, lo⟩ := id C
  go_wp2_with fail
  refine (vc.out _).mono ?_
  rintro e W1 ⟨rfl, hb⟩
  replace C := C.below hb
  clear a0 a1 a2 af b0 b1 b2 bf p0 p1 p2 pf lo hb
  obtain ⟨⟨a0, a1, a2, af⟩, ⟨b0, b1, b2, bf⟩, ⟨p0, p1, p2, pf⟩, lo⟩ := id C
  go_wp2_with fail
  replace C := C.put P.W (U P.v) (U P.x)
  clear a0 a1 a2 af b0 b1 b2 bf p0 p1 p2 pf lo
  obtain ⟨⟨a0, a1, a2, af⟩, ⟨b0, b1, b2, bf⟩, ⟨p0, p1, p2, pf⟩, lo⟩ := C
  exact bodyPost_ret (v := .agg #[.int .i64 P.W, .int .u64 (U P.v), .int .u64 (U P.x)]) (by simp [results, Tryz.results42, go_sem, p0, p1, p2]) rfl ⟨rfl, lo⟩
set_option maxRecDepth 100000 in
set_option maxHeartbeats 1000000 in
theorem binary_Mod (a b P : Rb) (s : Bool) (c : ∀ w, Calls Tryz.prog 95 #[.agg #[.int .i64 a.W, .int .u64 (U a.v), .int .u64 (U a.x)], .agg #[.int .i64 b.W, .int .u64 (U b.v), .int .u64 (U b.x)], .bool s] w fun e w' => e = .returned (.agg #[.int .i64 P.W, .int .u64 (U P.v), .int .u64 (U P.x)]) ∧ Below w.heap.size w w') (w : World) : Calls Tryz.prog 42 #[.int .i64 20, .agg #[.int .i64 a.W, .int .u64 (U a.v), .int .u64 (U a.x)], .agg #[.int .i64 b.W, .int .u64 (U b.v), .int .u64 (U b.x)], .bool s] w fun e w' => e = .returned (.agg #[.int .i64 P.W, .int .u64 (U P.v), .int .u64 (U P.x)]) ∧ Below w.heap.size w w' := by
  obtain ⟨aW, av, ax⟩ := a
  obtain ⟨bW, bv, bx⟩ := b
  have vc := Lib.hid c
  clear c
  show Calls Tryz.prog 42 #[.int .i64 20, .agg #[.int .i64 aW, .int .u64 (U av), .int .u64 (U ax)], .agg #[.int .i64 bW, .int .u64 (U bv), .int .u64 (U bx)], .bool s] w _
  go_enter Tryz.func42, Tryz.ntmps42
  go_wp2_with fail
  have C := tb_new (w := w) ⟨aW, av, ax⟩ ⟨bW, bv, bx⟩
  generalize (((w.alloc (Obj.cells #[Value.int IntKind.i64 aW, Value.int IntKind.u64 (U av), Value.int IntKind.u64 (U ax)] 24)).alloc (Obj.cells #[Value.int IntKind.i64 bW, Value.int IntKind.u64 (U bv), Value.int IntKind.u64 (U bx)] 24)).alloc (Obj.cells #[Value.int IntKind.i64 0, Value.int IntKind.u64 0, Value.int IntKind.u64 0] 24)) = W at C ⊢
  obtain ⟨⟨a0, a1, a2, af⟩, ⟨b0, b1, b2, bf⟩, ⟨p0, p1, p2, pf⟩, lo⟩ := id C
  go_wp2_with fail
  refine (vc.out _).mono ?_
  rintro e W1 ⟨rfl, hb⟩
  replace C := C.below hb
  clear a0 a1 a2 af b0 b1 b2 bf p0 p1 p2 pf lo hb
  obtain ⟨⟨a0, a1, a2, af⟩, ⟨b0, b1, b2, bf⟩, ⟨p0, p1, p2, pf⟩, lo⟩ := id C
  go_wp2_with fail
  replace C := C.put P.W (U P.v) (U P.x)
  clear a0 a1 a2 af b0 b1 b2 bf p0 p1 p2 pf lo
  obtain ⟨⟨a0, a1, a2, af⟩, ⟨b0, b1, b2, bf⟩, ⟨p0, p1, p2, pf⟩, lo⟩ := C
  exact bodyPost_ret (v := .agg #[.int .i64 P.W, .int .u64 (U P.v), .int .u64 (U P.x)]) (by simp [results, Tryz.results42, go_sem, p0, p1, p2]) rfl ⟨rfl, lo⟩
theorem nstrict {op : Int} (h : looseB op = false) (a b : Rb) : okc op a b = alikeB a b := by unfold okc alikeB; rw [h, Bool.false_or]
theorem vop_x {n : Nat} {f : BitVec 64 → BitVec 64 → BitVec 64} {a b : Vx} (h : ¬ (a.x = 0#64 ∧ b.x = 0#64)) : vop n f a b = fl n 3 := if_neg h
theorem vdvd_x {n : Nat} {f : BitVec 64 → BitVec 64 → BitVec 64} {a b : Vx} (h : ¬ (a.x = 0#64 ∧ b.x = 0#64)) : vdvd n f a b = fl n 3 := by
  unfold vdvd; split
  · rfl
  · exact vop_x h
theorem truth_no {n : Nat} {b : Vx} (ob : b.ok n) (hy : b.x = 0#64) (h0 : ¬ b.v = 0#64) : ¬ truthL (vl b n) = 102 := by
  rw [truth_vl ob]
  have : ¬ tru b = 0 := by rw [tru_known (n := n) hy]; exact h0
  rw [if_neg this]; split <;> decide
theorem truth_yes {n : Nat} {b : Vx} (ob : b.ok n) (hy : b.x = 0#64) (h0 : b.v = 0#64) : truthL (vl b n) = 102 := by
  rw [truth_vl ob, if_pos (by rw [tru_known (n := n) hy]; exact h0)]
theorem lf_xx {n : Nat} {w : World} {e : Ending} {w' : World} (h1 : 1 ≤ n) (h2 : n ≤ 64) (h : ∃ r, e = .returned r ∧ Row8 w' r (List.replicate n 120) ∧ Below w.heap.size w w') : ∃ r, e = .returned r ∧ LF ⟨n, (fl n 3).v, (fl n 3).x⟩ r w' ∧ Below w.heap.size w w' := by
  obtain ⟨r, he, hr, hb⟩ := h
  exact ⟨r, he, lf_x h1 h2 hr, hb⟩
theorem lf_nn {B n z : Nat} {c : BitVec 64} {w : World} {e : Ending} {w' : World} (h1 : 1 ≤ n) (h2 : n ≤ 64) (hz : z = c.toNat % 2 ^ n) (h : ∃ r, e = .returned r ∧ NR B n z r w' ∧ Below w.heap.size w w') : ∃ r, e = .returned r ∧ LF ⟨n, (kv n c).v, (kv n c).x⟩ r w' ∧ Below w.heap.size w w' := by
  obtain ⟨r, he, hr, hb⟩ := h
  exact ⟨r, he, lf_num h1 h2 hr.rn hz, hb⟩
theorem lf_rr {n z : Nat} {c : BitVec 64} {w : World} {e : Ending} {w' : World} (h1 : 1 ≤ n) (h2 : n ≤ 64) (hz : z = c.toNat % 2 ^ n) (h : ∃ r, e = .returned r ∧ RN n z r w' ∧ Below w.heap.size w w') : ∃ r, e = .returned r ∧ LF ⟨n, (kv n c).v, (kv n c).x⟩ r w' ∧ Below w.heap.size w w' := by
  obtain ⟨r, he, hr, hb⟩ := h
  exact ⟨r, he, lf_num h1 h2 hr hz, hb⟩
theorem fact_Add (a b : Rb) (s : Bool) : OpFact a b s 16 (nuR (fun n => vop n (· + ·)) a b) := by
  refine ⟨fun w => binary_Add a b _ s (fun w => add_any a b w) w, fun hk w v u h h' => ?_, fun hk => ?_⟩
  rotate_left
  · rw [nstrict rfl] at hk
    exact nuR_no hk
  rw [nstrict rfl] at hk
  obtain ⟨n, en, em, oa, ob⟩ := alike_of hk
  obtain ⟨aW, av, ax⟩ := a
  obtain ⟨bW, bv, bx⟩ := b
  obtain rfl : aW = n := en
  obtain rfl : bW = n := em
  have n1 := oa.lo
  have n2 := oa.hi
  unfold vR at h h'
  rw [Int.toNat_natCast] at h h'
  obtain ⟨ad, cap, rfl, -⟩ := id h.sh
  rw [vl_len] at h ⊢
  rw [nuR_ok hk]
  have kva := known_row (a := ⟨av, ax⟩) oa _ rfl _ w h
  have ku := known_row (a := ⟨bv, bx⟩) ob _ rfl u w h'
  by_cases hx : ax = 0#64
  rotate_left
  · have hx' : (ax == 0#64) = false := by simpa using hx
    rw [show ((⟨av, ax⟩ : Vx).x == 0#64) = false from hx'] at kva
    have e : (vop n (· + ·)) ⟨av, ax⟩ ⟨bv, bx⟩ = fl n 3 := vop_x fun h => hx h.1
    rw [e]
    exact Binary_Add _ u s _ w ((Number_Add_xa ad n cap u s w (by omega) kva).mono fun e w' hh => lf_xx n1 n2 hh)
  rw [show ((⟨av, ax⟩ : Vx).x == 0#64) = true from by simpa using hx] at kva
  by_cases hy : bx = 0#64
  rotate_left
  · have hy' : (bx == 0#64) = false := by simpa using hy
    rw [show ((⟨bv, bx⟩ : Vx).x == 0#64) = false from hy'] at ku
    have e : (vop n (· + ·)) ⟨av, ax⟩ ⟨bv, bx⟩ = fl n 3 := vop_x fun h => hy h.2
    rw [e]
    exact Binary_Add _ u s _ w ((Number_Add_xb ad n cap u s w (by omega) kva ku).mono fun e w' hh => lf_xx n1 n2 hh)
  rw [show ((⟨bv, bx⟩ : Vx).x == 0#64) = true from by simpa using hy] at ku
  have e : (vop n (· + ·)) ⟨av, ax⟩ ⟨bv, bx⟩ = kv n (av + bv) := vop_kv _ hx hy
  rw [e]
  have c := plusR _ u n _ _ (by omega) w (rn_vl (a := ⟨av, ax⟩) oa hx h) (rn_vl (a := ⟨bv, bx⟩) ob hy h')
  exact Binary_Add _ u s _ w ((Number_Add_k ad n cap u s w (by omega) _ kva ku c).mono fun e w' hh => lf_nn n1 n2 (add_is n2 av bv) hh)
theorem fact_Sub (a b : Rb) (s : Bool) : OpFact a b s 17 (nuR (fun n => vop n (· - ·)) a b) := by
  refine ⟨fun w => binary_Sub a b _ s (fun w => sub_any a b w) w, fun hk w v u h h' => ?_, fun hk => ?_⟩
  rotate_left
  · rw [nstrict rfl] at hk
    exact nuR_no hk
  rw [nstrict rfl] at hk
  obtain ⟨n, en, em, oa, ob⟩ := alike_of hk
  obtain ⟨aW, av, ax⟩ := a
  obtain ⟨bW, bv, bx⟩ := b
  obtain rfl : aW = n := en
  obtain rfl : bW = n := em
  have n1 := oa.lo
  have n2 := oa.hi
  unfold vR at h h'
  rw [Int.toNat_natCast] at h h'
  obtain ⟨ad, cap, rfl, -⟩ := id h.sh
  rw [vl_len] at h ⊢
  rw [nuR_ok hk]
  have kva := known_row (a := ⟨av, ax⟩) oa _ rfl _ w h
  have ku := known_row (a := ⟨bv, bx⟩) ob _ rfl u w h'
  by_cases hx : ax = 0#64
  rotate_left
  · have hx' : (ax == 0#64) = false := by simpa using hx
    rw [show ((⟨av, ax⟩ : Vx).x == 0#64) = false from hx'] at kva
    have e : (vop n (· - ·)) ⟨av, ax⟩ ⟨bv, bx⟩ = fl n 3 := vop_x fun h => hx h.1
    rw [e]
    exact Binary_Sub _ u s _ w ((Number_Sub_xa ad n cap u s w (by omega) kva).mono fun e w' hh => lf_xx n1 n2 hh)
  rw [show ((⟨av, ax⟩ : Vx).x == 0#64) = true from by simpa using hx] at kva
  by_cases hy : bx = 0#64
  rotate_left
  · have hy' : (bx == 0#64) = false := by simpa using hy
    rw [show ((⟨bv, bx⟩ : Vx).x == 0#64) = false from hy'] at ku
    have e : (vop n (· - ·)) ⟨av, ax⟩ ⟨bv, bx⟩ = fl n 3 := vop_x fun h => hy h.2
    rw [e]
    exact Binary_Sub _ u s _ w ((Number_Sub_xb ad n cap u s w (by omega) kva ku).mono fun e w' hh => lf_xx n1 n2 hh)
  rw [show ((⟨bv, bx⟩ : Vx).x == 0#64) = true from by simpa using hy] at ku
  have e : (vop n (· - ·)) ⟨av, ax⟩ ⟨bv, bx⟩ = kv n (av - bv) := vop_kv _ hx hy
  rw [e]
  have c := minusR _ u n _ _ (by omega) w (rn_vl (a := ⟨av, ax⟩) oa hx h) (rn_vl (a := ⟨bv, bx⟩) ob hy h')
  exact Binary_Sub _ u s _ w ((Number_Sub_k ad n cap u s w (by omega) _ kva ku c).mono fun e w' hh => lf_nn n1 n2 (sub_is n2 av bv (Nat.le_of_lt (ok_lt (a := ⟨bv, bx⟩) ob hy))) hh)
theorem fact_Mul (a b : Rb) (s : Bool) : OpFact a b s 18 (nuR (fun n => vop n (· * ·)) a b) := by
  refine ⟨fun w => binary_Mul a b _ s (fun w => mul_any a b w) w, fun hk w v u h h' => ?_, fun hk => ?_⟩
  rotate_left
  · rw [nstrict rfl] at hk
    exact nuR_no hk
  rw [nstrict rfl] at hk
  obtain ⟨n, en, em, oa, ob⟩ := alike_of hk
  obtain ⟨aW, av, ax⟩ := a
  obtain ⟨bW, bv, bx⟩ := b
  obtain rfl : aW = n := en
  obtain rfl : bW = n := em
  have n1 := oa.lo
  have n2 := oa.hi
  unfold vR at h h'
  rw [Int.toNat_natCast] at h h'
  obtain ⟨ad, cap, rfl, -⟩ := id h.sh
  rw [vl_len] at h ⊢
  rw [nuR_ok hk]
  have kva := known_row (a := ⟨av, ax⟩) oa _ rfl _ w h
  have ku := known_row (a := ⟨bv, bx⟩) ob _ rfl u w h'
  by_cases hx : ax = 0#64
  rotate_left
  · have hx' : (ax == 0#64) = false := by simpa using hx
    rw [show ((⟨av, ax⟩ : Vx).x == 0#64) = false from hx'] at kva
    have e : (vop n (· * ·)) ⟨av, ax⟩ ⟨bv, bx⟩ = fl n 3 := vop_x fun h => hx h.1
    rw [e]
    exact Binary_Mul _ u s _ w ((Number_Mul_xa ad n cap u s w (by omega) kva).mono fun e w' hh => lf_xx n1 n2 hh)
  rw [show ((⟨av, ax⟩ : Vx).x == 0#64) = true from by simpa using hx] at kva
  by_cases hy : bx = 0#64
  rotate_left
  · have hy' : (bx == 0#64) = false := by simpa using hy
    rw [show ((⟨bv, bx⟩ : Vx).x == 0#64) = false from hy'] at ku
    have e : (vop n (· * ·)) ⟨av, ax⟩ ⟨bv, bx⟩ = fl n 3 := vop_x fun h => hy h.2
    rw [e]
    exact Binary_Mul _ u s _ w ((Number_Mul_xb ad n cap u s w (by omega) kva ku).mono fun e w' hh => lf_xx n1 n2 hh)
  rw [show ((⟨bv, bx⟩ : Vx).x == 0#64) = true from by simpa using hy] at ku
  have e : (vop n (· * ·)) ⟨av, ax⟩ ⟨bv, bx⟩ = kv n (av * bv) := vop_kv _ hx hy
  rw [e]
  have c := timesR _ u n _ _ n1 n2 w (rn_vl (a := ⟨av, ax⟩) oa hx h) (rn_vl (a := ⟨bv, bx⟩) ob hy h')
  exact Binary_Mul _ u s _ w ((Number_Mul_k ad n cap u s w (by omega) _ kva ku c).mono fun e w' hh => lf_nn n1 n2 (mul_is n2 av bv) hh)
theorem fact_Div (a b : Rb) (s : Bool) : OpFact a b s 19 (nuR (fun n => vdvd n (qt n s)) a b) := by
  refine ⟨fun w => binary_Div a b _ s (fun w => div_any a b s w) w, fun hk w v u h h' => ?_, fun hk => ?_⟩
  rotate_left
  · rw [nstrict rfl] at hk
    exact nuR_no hk
  rw [nstrict rfl] at hk
  obtain ⟨n, en, em, oa, ob⟩ := alike_of hk
  obtain ⟨aW, av, ax⟩ := a
  obtain ⟨bW, bv, bx⟩ := b
  obtain rfl : aW = n := en
  obtain rfl : bW = n := em
  have n1 := oa.lo
  have n2 := oa.hi
  unfold vR at h h'
  rw [Int.toNat_natCast] at h h'
  obtain ⟨ad, cap, rfl, -⟩ := id h.sh
  rw [vl_len] at h ⊢
  rw [nuR_ok hk]
  have kva := known_row (a := ⟨av, ax⟩) oa _ rfl _ w h
  have ku := known_row (a := ⟨bv, bx⟩) ob _ rfl u w h'
  by_cases hx : ax = 0#64
  rotate_left
  · have hx' : (ax == 0#64) = false := by simpa using hx
    rw [show ((⟨av, ax⟩ : Vx).x == 0#64) = false from hx'] at kva
    have e : (vdvd n (qt n s)) ⟨av, ax⟩ ⟨bv, bx⟩ = fl n 3 := vdvd_x (fun h => hx h.1)
    rw [e]
    exact Binary_Div _ u s _ w ((Number_Div_xa ad n cap u s w (by omega) kva).mono fun e w' hh => lf_xx n1 n2 hh)
  rw [show ((⟨av, ax⟩ : Vx).x == 0#64) = true from by simpa using hx] at kva
  by_cases hy : bx = 0#64
  rotate_left
  · have hy' : (bx == 0#64) = false := by simpa using hy
    rw [show ((⟨bv, bx⟩ : Vx).x == 0#64) = false from hy'] at ku
    have e : (vdvd n (qt n s)) ⟨av, ax⟩ ⟨bv, bx⟩ = fl n 3 := vdvd_x (fun h => hy h.2)
    rw [e]
    exact Binary_Div _ u s _ w ((Number_Div_xb ad n cap u s w (by omega) kva ku).mono fun e w' hh => lf_xx n1 n2 hh)
  rw [show ((⟨bv, bx⟩ : Vx).x == 0#64) = true from by simpa using hy] at ku
  have kt := refTruth_any u _ (by rw [vl_len]; omega) w h'
  by_cases h0 : bv = 0#64
  · rw [truth_yes (b := ⟨bv, bx⟩) ob hy h0] at kt
    have e : (vdvd n (qt n s)) ⟨av, ax⟩ ⟨bv, bx⟩ = fl n 3 := if_pos h0
    rw [e]
    exact Binary_Div _ u s _ w ((Number_Div_z ad n cap u s w (by omega) kva ku kt).mono fun e w' hh => lf_xx n1 n2 hh)
  · have e : (vdvd n (qt n s)) ⟨av, ax⟩ ⟨bv, bx⟩ = kv n (qt n s av bv) := (if_neg h0).trans (vop_kv _ hx hy)
    rw [e]
    have hp : 0 < bv.toNat := by
      rcases Nat.eq_zero_or_pos bv.toNat with h | h
      · exact absurd (BitVec.eq_of_toNat_eq h) h0
      · exact h
    have c := sharedR _ u n _ _ s n1 n2 hp w (rn_vl (a := ⟨av, ax⟩) oa hx h) (rn_vl (a := ⟨bv, bx⟩) ob hy h')
    exact Binary_Div _ u s _ w ((Number_Div_k ad n cap u s w (by omega) _ _ _ (truth_no (b := ⟨bv, bx⟩) ob hy h0) kva ku kt c).mono fun e w' hh => lf_rr n1 n2 (quot_is n1 n2 s av bv (ok_lt (a := ⟨av, ax⟩) oa hx) (ok_lt (a := ⟨bv, bx⟩) ob hy)) hh)
theorem fact_Mod (a b : Rb) (s : Bool) : OpFact a b s 20 (nuR (fun n => vdvd n (rm n s)) a b) := by
  refine ⟨fun w => binary_Mod a b _ s (fun w => mod_any a b s w) w, fun hk w v u h h' => ?_, fun hk => ?_⟩
  rotate_left
  · rw [nstrict rfl] at hk
    exact nuR_no hk
  rw [nstrict rfl] at hk
  obtain ⟨n, en, em, oa, ob⟩ := alike_of hk
  obtain ⟨aW, av, ax⟩ := a
  obtain ⟨bW, bv, bx⟩ := b
  obtain rfl : aW = n := en
  obtain rfl : bW = n := em
  have n1 := oa.lo
  have n2 := oa.hi
  unfold vR at h h'
  rw [Int.toNat_natCast] at h h'
  obtain ⟨ad, cap, rfl, -⟩ := id h.sh
  rw [vl_len] at h ⊢
  rw [nuR_ok hk]
  have kva := known_row (a := ⟨av, ax⟩) oa _ rfl _ w h
  have ku := known_row (a := ⟨bv, bx⟩) ob _ rfl u w h'
  by_cases hx : ax = 0#64
  rotate_left
  · have hx' : (ax == 0#64) = false := by simpa using hx
    rw [show ((⟨av, ax⟩ : Vx).x == 0#64) = false from hx'] at kva
    have e : (vdvd n (rm n s)) ⟨av, ax⟩ ⟨bv, bx⟩ = fl n 3 := vdvd_x (fun h => hx h.1)
    rw [e]
    exact Binary_Mod _ u s _ w ((Number_Mod_xa ad n cap u s w (by omega) kva).mono fun e w' hh => lf_xx n1 n2 hh)
  rw [show ((⟨av, ax⟩ : Vx).x == 0#64) = true from by simpa using hx] at kva
  by_cases hy : bx = 0#64
  rotate_left
  · have hy' : (bx == 0#64) = false := by simpa using hy
    rw [show ((⟨bv, bx⟩ : Vx).x == 0#64) = false from hy'] at ku
    have e : (vdvd n (rm n s)) ⟨av, ax⟩ ⟨bv, bx⟩ = fl n 3 := vdvd_x (fun h => hy h.2)
    rw [e]
    exact Binary_Mod _ u s _ w ((Number_Mod_xb ad n cap u s w (by omega) kva ku).mono fun e w' hh => lf_xx n1 n2 hh)
  rw [show ((⟨bv, bx⟩ : Vx).x == 0#64) = true from by simpa using hy] at ku
  have kt := refTruth_any u _ (by rw [vl_len]; omega) w h'
  by_cases h0 : bv = 0#64
  · rw [truth_yes (b := ⟨bv, bx⟩) ob hy h0] at kt
    have e : (vdvd n (rm n s)) ⟨av, ax⟩ ⟨bv, bx⟩ = fl n 3 := if_pos h0
    rw [e]
    exact Binary_Mod _ u s _ w ((Number_Mod_z ad n cap u s w (by omega) kva ku kt).mono fun e w' hh => lf_xx n1 n2 hh)
  · have e : (vdvd n (rm n s)) ⟨av, ax⟩ ⟨bv, bx⟩ = kv n (rm n s av bv) := (if_neg h0).trans (vop_kv _ hx hy)
    rw [e]
    have hp : 0 < bv.toNat := by
      rcases Nat.eq_zero_or_pos bv.toNat with h | h
      · exact absurd (BitVec.eq_of_toNat_eq h) h0
      · exact h
    have c := sharedR _ u n _ _ s n1 n2 hp w (rn_vl (a := ⟨av, ax⟩) oa hx h) (rn_vl (a := ⟨bv, bx⟩) ob hy h')
    exact Binary_Mod _ u s _ w ((Number_Mod_k ad n cap u s w (by omega) _ _ _ (truth_no (b := ⟨bv, bx⟩) ob hy h0) kva ku kt c).mono fun e w' hh => lf_rr n1 n2 (rem_is n1 n2 s av bv (ok_lt (a := ⟨av, ax⟩) oa hx) (ok_lt (a := ⟨bv, bx⟩) ob hy)) hh)
theorem kn_known {l : List UInt8} (h : Kn l) : knownL l = true := by
  unfold knownL
  rw [List.all_eq_true]
  intro c hc
  obtain ⟨i, hi, rfl⟩ := List.mem_iff_getElem.1 hc
  have := h i hi
  rw [getD_at hi] at this
  rcases this with e | e <;> rw [e] <;> rfl
theorem Unary_num (op : Int) (v : Value) (Q : Value → World → Prop) (w : World) (c : Calls Tryz.prog 36 #[.int .i64 op, v] w fun e w' => ∃ r, e = .returned r ∧ Q r w' ∧ Below w.heap.size w w') :
    Calls Tryz.prog 15 #[.int .i64 op, v] w fun e w' => ∃ r, e = .returned r ∧ Q r w' ∧ Below w.heap.size w w' := by
  have C := Lib.hid c
  clear c
  go_enter Tryz.func15, Tryz.ntmps15
  go_wp2_with fail
  refine C.out.mono ?_
  rintro e w1 ⟨r, rfl, hq, hb⟩
  go_wp2_with fail
  go_ret
  exact ⟨r, rfl, hq, hb⟩
theorem neg_ref (a : Rb) (hk : a.okB = true) (w : World) (v : Value) (h : Row8 w v (vR a)) : Calls Tryz.prog 15 #[.int .i64 6, v] w fun e w' => ∃ r, e = .returned r ∧ LF (negR a) r w' ∧ Below w.heap.size w w' := by
  obtain ⟨n, en, oa⟩ := Rb.ok_of hk
  obtain ⟨aW, av, ax⟩ := a
  obtain rfl : aW = n := en
  have n1 := oa.lo
  have n2 := oa.hi
  unfold vR at h
  rw [Int.toNat_natCast] at h
  have ep : negR ⟨n, av, ax⟩ = ⟨n, (vneg n ⟨av, ax⟩).v, (vneg n ⟨av, ax⟩).x⟩ := by unfold negR; rw [hk]; rfl
  rw [ep]
  obtain ⟨ad, cap, rfl, -⟩ := id h.sh
  rw [vl_len] at h ⊢
  refine Unary_num 6 _ _ w (unary_Neg ad n cap _ w (by omega) fun w' z hb hz => ?_)
  have h2 := h.below hb
  have hz0 := hz
  obtain ⟨Lz, hrz, hlz, hkz, hnz⟩ := hz
  obtain ⟨az, cz, rfl, -⟩ := id hrz.sh
  rw [hlz] at hz0 ⊢
  have kv0 := refKnown_any _ Lz (by omega) w' hrz
  rw [kn_known hkz, hlz] at kv0
  have ku := known_row (a := ⟨av, ax⟩) oa _ rfl _ w' h2
  by_cases hx : ax = 0#64
  · rw [show ((⟨av, ax⟩ : Vx).x == 0#64) = true from by simpa using hx] at ku
    have e : vneg n ⟨av, ax⟩ = kv n (0#64 - av) := by
      have e1 : vneg n ⟨av, ax⟩ = kv n ((kv n 0#64).v - av) := vop_kv _ rfl hx
      have e2 : (kv n 0#64).v = 0#64 := by simp [kv]
      rw [e1, e2]
    rw [e]
    have c := minusR _ (.slice ad n cap) n 0 _ (by omega) w' hz0 (rn_vl (a := ⟨av, ax⟩) oa hx h2)
    exact (Number_Sub_k az n cz _ false w' (by omega) _ kv0 ku c).mono fun e w'' hh => lf_nn n1 n2 (sub_is n2 0#64 av (Nat.le_of_lt (ok_lt (a := ⟨av, ax⟩) oa hx))) hh
  · rw [show ((⟨av, ax⟩ : Vx).x == 0#64) = false from by simpa using hx] at ku
    have e : vneg n ⟨av, ax⟩ = fl n 3 := vop_x fun h => hx h.2
    rw [e]
    exact (Number_Sub_xb az n cz _ false w' (by omega) kv0 ku).mono fun e w'' hh => lf_xx n1 n2 hh
set_option maxRecDepth 100000 in
set_option maxHeartbeats 8000000 in
theorem bitsNumbers_any {B : Nat} (a b : Rb) (s : Bool) (w : World) (hG : Glob B w) : Calls Tryz.prog 4 #[.agg #[.int .i64 a.W, .int .u64 (U a.v), .int .u64 (U a.x)], .agg #[.int .i64 b.W, .int .u64 (U b.v), .int .u64 (U b.x)], .bool s] w fun e w' => e = .returned (.bool true) ∧ Below w.heap.size w w' := by
  have HG := Lib.hid hG
  have HP := Lib.hid fun v w hv => pair_ok [16, 17, 18, 19, 20] (by decide) v a b s w hv (fun op ho => by
    simp only [List.mem_cons, List.not_mem_nil, or_false] at ho
    rcases ho with rfl | rfl | rfl | rfl | rfl
    · exact ⟨_, fact_Add a b s⟩
    · exact ⟨_, fact_Sub a b s⟩
    · exact ⟨_, fact_Mul a b s⟩
    · exact ⟨_, fact_Div a b s⟩
    · exact ⟨_, fact_Mod a b s⟩)
  have kneg := Lib.hid fun w => neg_any a w
  have kref := Lib.hid (neg_ref a)
  have kill := Lib.hid (show a.okB = false → negR a = ZR from fun h => by unfold negR; rw [h]; rfl)
  generalize negR a = P at kneg kref kill
  clear hG
  go_enter Tryz.func4, Tryz.ntmps4
  go_upto_region 2 with fail
  have C := tb_new (w := w) a b
  generalize (((w.alloc (Obj.cells #[Value.int IntKind.i64 a.W, Value.int IntKind.u64 (U a.v), Value.int IntKind.u64 (U a.x)] 24)).alloc (Obj.cells #[Value.int IntKind.i64 b.W, Value.int IntKind.u64 (U b.v), Value.int IntKind.u64 (U b.x)] 24)).alloc (Obj.cells #[Value.int IntKind.i64 0, Value.int IntKind.u64 0, Value.int IntKind.u64 0] 24)) = W at C ⊢
  obtain ⟨⟨a0, a1, a2, af⟩, ⟨b0, b1, b2, bf⟩, ⟨p0, p1, p2, pf⟩, lo⟩ := id C
  obtain ⟨va0, hva⟩ : ∃ t, a.okB = t := ⟨_, rfl⟩
  have VA0 := Lib.hid fun w => pvalid_is a va0 hva w
  have HVA := Lib.hid hva
  clear hva
  go_wp2_with fail
  refine (VA0.out _).mono ?_
  rintro e1 W1 ⟨rfl, hb⟩
  replace C := C.below hb
  clear a0 a1 a2 af b0 b1 b2 bf p0 p1 p2 pf lo hb
  go_upto_if 9 with fail
  obtain ⟨⟨a0, a1, a2, af⟩, ⟨b0, b1, b2, bf⟩, ⟨p0, p1, p2, pf⟩, lo⟩ := id C
  go_cut [] (fun wx => ∃ wq : World, wq = wx ∧ TB w a b P.W (U P.v) (U P.x) wx)
  case first =>
    have ha := HVA.out
    cases va0
    · have e := kill.out ha
      clear ha
      go_wp2_with fail
      go_meet
      exact ⟨_, rfl, by rw [e]; simp only [ZR, show U 0#64 = 0 from by decide]; exact C⟩
    · have VA := Lib.hid fun w => pV_row a ha w
      have HR := Lib.hid (kref.out ha)
      clear ha
      go_wp2_with fail
      refine (VA.out _).mono ?_
      rintro e2 W2 ⟨v2, rfl, hv2, hb⟩
      replace C := C.below hb
      clear a0 a1 a2 af b0 b1 b2 bf p0 p1 p2 pf lo hb
      go_wp2_with fail
      refine (HR.out _ _ hv2).mono ?_
      rintro e3 W3 ⟨v3, rfl, hv3, hb⟩
      replace C := C.below hb
      clear hb hv2
      go_wp2_with fail
      refine (pB_is P _ _ hv3).mono ?_
      rintro e4 W4 ⟨rfl, hb⟩
      replace C := C.below hb
      clear hb hv3
      obtain ⟨-, -, ⟨p0, p1, p2, pf⟩, -⟩ := id C
      go_wp2_with fail
      go_meet
      exact ⟨_, rfl, C.put P.W (U P.v) (U P.x)⟩
  case rest =>
  clear a0 a1 a2 af b0 b1 b2 bf p0 p1 p2 pf lo C kref kill VA0
  obtain ⟨wq, hwq, C⟩ := hcut
  subst hwq
  obtain ⟨⟨a0, a1, a2, af⟩, ⟨b0, b1, b2, bf⟩, ⟨p0, p1, p2, pf⟩, lo⟩ := id C
  have HW := Lib.hid (HG.out.here lo)
  have ga0 := cell_regrown a0
  have ga1 := cell_regrown a1
  have ga2 := cell_regrown a2
  have gb0 := cell_regrown b0
  have gb1 := cell_regrown b1
  have gb2 := cell_regrown b2
  have gp0 := cell_regrown p0
  have gp1 := cell_regrown p1
  have gp2 := cell_regrown p2
  go_upto_region 4 with fail
  refine wp_region_rel 14 (by kernel_rfl) (by kernel_rfl) ?_
  simp only [List.take_succ_cons, List.take_zero, List.drop_succ_cons, List.drop_zero]
  (refine rel_fix0 (fun K hK => ?_); go_simp; apply Exists.intro; refine ⟨fun _ _ => ?_, hK _ ?_⟩; (with_reducible exact ret_fix (vectors_ok _ (HW.out.here (below_regrown _ _ _)))); clear hK K)
  (refine rel_fix0 (fun K hK => ?_); go_simp; refine hK _ ?_; clear hK K)
  (refine rel_fix0 (fun K hK => ?_); go_simp; refine hK _ ?_; clear hK K)
  (refine rel_fix0 (fun K hK => ?_); go_simp; apply Exists.intro; refine ⟨fun _ _ => ?_, hK _ ?_⟩; (with_reducible exact ret_fix (kneg.out _)); clear hK K)
  (refine rel_fix0 (fun K hK => ?_); go_simp; refine hK _ ?_; clear hK K)
  (refine rel_fix0 (fun K hK => ?_); go_simp; refine hK _ ?_; clear hK K)
  (refine rel_fix0 (fun K hK => ?_); go_simp; refine hK _ ?_; clear hK K)
  (refine rel_fix0 (fun K hK => ?_); go_simp; refine hK _ ?_; clear hK K)
  refine rel_fact [] (fun v w => RowI w v [16, 17, 18, 19, 20]) 22 rfl (by simp) (rowI_sta _) (by rfl) (by kernel_rfl) (by kernel_rfl) ?_ ?_
  · intro d os
    simp only [relAll]
    go_simp
    refine ⟨⟨_, 0, _, rfl, fun q hq => ?_⟩, (Below.refl _ _).alloc (Nat.le_of_eq Array.size_append.symm) _⟩
    match q, hq with
    | 0, _ => go_simp
    | 1, _ => go_simp
    | 2, _ => go_simp
    | 3, _ => go_simp
    | 4, _ => go_simp
  (refine rel_fix (by kernel_rfl) (by kernel_rfl) (fun K hK => ?_); go_simp; refine hK _ ?_; clear hK K)
  (refine rel_fix (by kernel_rfl) (by kernel_rfl) (fun K hK => ?_); go_simp; refine hK _ ?_; clear hK K)
  (refine rel_fix (by kernel_rfl) (by kernel_rfl) (fun K hK => ?_); go_simp; refine hK _ ?_; clear hK K)
  refine rel_use [(22, _)] (.bool true) (by rfl) (by kernel_rfl) (by kernel_rfl) ?_ ?_
  · intro d os
    simp only [relAll]
    rintro v1 h1'
    go_simp
    exact ret_fix (HP.out _ _ h1')
  (refine rel_fix (by kernel_rfl) (by kernel_rfl) (fun K hK => ?_); go_simp; refine hK _ ?_; clear hK K)
  refine rel_nil ?_
  intro d os
  simp only [relAll]
  rintro v9 -
  clear ga0 ga1 ga2 gb0 gb1 gb2 gp0 gp1 gp2 a0 a1 a2 af b0 b1 b2 bf p0 p1 p2 pf
  have lo9 := lo.trans ((below_regrown _ d os).mono lo.size)
  generalize grow (redrawn _ d) os = W9 at lo9 ⊢
  go_wp2_with fail
  go_ret
  exact ⟨rfl, lo9⟩
end Go.Proofs.YtodldcdfdjooaaaGreatDoor
