/- Slice, Put, Part and Resize of any vectors and numbers.
   Part of valid vectors.
   Parts, windows and numbers of lists of states. No program here.
   What Slice, Put, Resize and Part of any vectors return, and what the reference makes of them.
   The law BitsParts: its variables. -/
import Derived.Test.YtdpmojkpfnkcdaaDoorOps5
import Derived.Test.YtdpmojkpfnkcdaaDoorOps6
import Derived.Test.YtdpmojkpfnkcdaaDoorRefB2
import Derived.Test.YtdpmojkpfnkcdaaDoorMadeP
import Derived.Test.YtdpmojkpfnkcdaaDoorRefParts
import Derived.Test.YtdpmojkpfnkcdaaDoorVectors
import Derived.Deep.CutBlock
import Derived.Deep.DeepCutAuto
namespace Go.Proofs.YtdpmojkpfnkcdaaDoor
open Go Go.RowKit Go.Sort
set_option linter.unusedVariables false
set_option maxRecDepth 100000 in
set_option maxHeartbeats 1000000 in
theorem slice_ill (a : Rb) (at_ k : Int) (w : World) (h : a.okB = false) : Calls Tryd.prog 35 #[.agg #[.int .i64 a.W, .int .u64 (U a.v), .int .u64 (U a.x)], .int .i64 at_, .int .i64 k] w fun e w' => e = .returned (.agg #[.int .i64 0, .int .u64 0, .int .u64 0]) ∧ Below w.heap.size w w' := by
  have c1 := Lib.hid fun w => valid_no a.W a.v a.x w h
  clear h
  go_enter Tryd.func35, Tryd.ntmps35
  go_wp2_with fail
  have X : Box ((w.alloc (Obj.cells #[Value.int IntKind.i64 a.W, Value.int IntKind.u64 (U a.v), Value.int IntKind.u64 (U a.x)] 24)).alloc (Obj.cells #[Value.int IntKind.i64 0, Value.int IntKind.u64 0, Value.int IntKind.u64 0] 24)) (w.heap.size) a.W (U a.v) (U a.x) ∧ Box ((w.alloc (Obj.cells #[Value.int IntKind.i64 a.W, Value.int IntKind.u64 (U a.v), Value.int IntKind.u64 (U a.x)] 24)).alloc (Obj.cells #[Value.int IntKind.i64 0, Value.int IntKind.u64 0, Value.int IntKind.u64 0] 24)) (w.heap.size + 1) 0 0 0 ∧ Below w.heap.size w ((w.alloc (Obj.cells #[Value.int IntKind.i64 a.W, Value.int IntKind.u64 (U a.v), Value.int IntKind.u64 (U a.x)] 24)).alloc (Obj.cells #[Value.int IntKind.i64 0, Value.int IntKind.u64 0, Value.int IntKind.u64 0] 24)) := ⟨⟨by go_simp, by go_simp, by go_simp, fun o => by go_simp⟩, ⟨by go_simp, by go_simp, by go_simp, fun o => by go_simp⟩, (((Below.refl _ _).alloc (by first | exact Nat.le_refl _ | (simp <;> omega)) _).alloc (by first | exact Nat.le_refl _ | (simp <;> omega)) _)⟩
  generalize ((w.alloc (Obj.cells #[Value.int IntKind.i64 a.W, Value.int IntKind.u64 (U a.v), Value.int IntKind.u64 (U a.x)] 24)).alloc (Obj.cells #[Value.int IntKind.i64 0, Value.int IntKind.u64 0, Value.int IntKind.u64 0] 24)) = wx at X ⊢
  obtain ⟨t0, t1, lo⟩ := X
  obtain ⟨t00, t01, t02, t0f⟩ := id t0
  obtain ⟨t10, t11, t12, t1f⟩ := id t1
  refine (c1.out _).mono ?_
  rintro e wy0 ⟨rfl, hb⟩
  clear t00 t01 t02 t0f t10 t11 t12 t1f
  replace t0 := t0.below hb
  replace t1 := t1.below hb
  replace lo := lo.trans (hb.mono lo.size)
  clear hb
  obtain ⟨t00, t01, t02, t0f⟩ := id t0
  obtain ⟨t10, t11, t12, t1f⟩ := id t1
  go_wp2_with fail
  exact bodyPost_ret (v := .agg #[.int .i64 0, .int .u64 0, .int .u64 0]) (by simp [results, Tryd.results35, go_sem, t10, t11, t12]) rfl ⟨rfl, (by (repeat (first | (with_reducible exact lo) | (with_reducible exact Nat.le_refl _) | (with_reducible refine Below.setCell ?_ ?_ _) | (with_reducible refine Below.alloc ?_ ?_ _) | (with_reducible refine below_drewN ?_ _) | (with_reducible refine Below.drew ?_))) <;> (first | omega | (simp <;> omega)))⟩
set_option maxRecDepth 100000 in
set_option maxHeartbeats 1000000 in
theorem slice_z1 (n : Nat) (a : Vx) (at_ k : Int) (w : World) (ha : a.ok n) (h : k < 1) : Calls Tryd.prog 35 #[.agg #[.int .i64 n, .int .u64 (U a.v), .int .u64 (U a.x)], .int .i64 at_, .int .i64 k] w fun e w' => e = .returned (.agg #[.int .i64 0, .int .u64 0, .int .u64 0]) ∧ Below w.heap.size w w' := by
  have c1 := Lib.hid fun w => valid_ok n a.v a.x w ha
  have n1 := ha.lo
  have n2 := ha.hi
  clear ha
  go_enter Tryd.func35, Tryd.ntmps35
  go_wp2_with fail
  have X : Box ((w.alloc (Obj.cells #[Value.int IntKind.i64 n, Value.int IntKind.u64 (U a.v), Value.int IntKind.u64 (U a.x)] 24)).alloc (Obj.cells #[Value.int IntKind.i64 0, Value.int IntKind.u64 0, Value.int IntKind.u64 0] 24)) (w.heap.size) n (U a.v) (U a.x) ∧ Box ((w.alloc (Obj.cells #[Value.int IntKind.i64 n, Value.int IntKind.u64 (U a.v), Value.int IntKind.u64 (U a.x)] 24)).alloc (Obj.cells #[Value.int IntKind.i64 0, Value.int IntKind.u64 0, Value.int IntKind.u64 0] 24)) (w.heap.size + 1) 0 0 0 ∧ Below w.heap.size w ((w.alloc (Obj.cells #[Value.int IntKind.i64 n, Value.int IntKind.u64 (U a.v), Value.int IntKind.u64 (U a.x)] 24)).alloc (Obj.cells #[Value.int IntKind.i64 0, Value.int IntKind.u64 0, Value.int IntKind.u64 0] 24)) := ⟨⟨by go_simp, by go_simp, by go_simp, fun o => by go_simp⟩, ⟨by go_simp, by go_simp, by go_simp, fun o => by go_simp⟩, (((Below.refl _ _).alloc (by first | exact Nat.le_refl _ | (simp <;> omega)) _).alloc (by first | exact Nat.le_refl _ | (simp <;> omega)) _)⟩
  generalize ((w.alloc (Obj.cells #[Value.int IntKind.i64 n, Value.int IntKind.u64 (U a.v), Value.int IntKind.u64 (U a.x)] 24)).alloc (Obj.cells #[Value.int IntKind.i64 0, Value.int IntKind.u64 0, Value.int IntKind.u64 0] 24)) = wx at X ⊢
  obtain ⟨t0, t1, lo⟩ := X
  obtain ⟨t00, t01, t02, t0f⟩ := id t0
  obtain ⟨t10, t11, t12, t1f⟩ := id t1
  refine (c1.out _).mono ?_
  rintro e wy0 ⟨rfl, hb⟩
  clear t00 t01 t02 t0f t10 t11 t12 t1f
  replace t0 := t0.below hb
  replace t1 := t1.below hb
  replace lo := lo.trans (hb.mono lo.size)
  clear hb
  obtain ⟨t00, t01, t02, t0f⟩ := id t0
  obtain ⟨t10, t11, t12, t1f⟩ := id t1
  go_wp2_with fail
  exact bodyPost_ret (v := .agg #[.int .i64 0, .int .u64 0, .int .u64 0]) (by simp [results, Tryd.results35, go_sem, t10, t11, t12]) rfl ⟨rfl, (by (repeat (first | (with_reducible exact lo) | (with_reducible exact Nat.le_refl _) | (with_reducible refine Below.setCell ?_ ?_ _) | (with_reducible refine Below.alloc ?_ ?_ _) | (with_reducible refine below_drewN ?_ _) | (with_reducible refine Below.drew ?_))) <;> (first | omega | (simp <;> omega)))⟩
set_option maxRecDepth 100000 in
set_option maxHeartbeats 1000000 in
theorem slice_z2 (n : Nat) (a : Vx) (at_ k : Int) (w : World) (ha : a.ok n) (h : 1 ≤ k) (h2 : at_ < 0) : Calls Tryd.prog 35 #[.agg #[.int .i64 n, .int .u64 (U a.v), .int .u64 (U a.x)], .int .i64 at_, .int .i64 k] w fun e w' => e = .returned (.agg #[.int .i64 0, .int .u64 0, .int .u64 0]) ∧ Below w.heap.size w w' := by
  have c1 := Lib.hid fun w => valid_ok n a.v a.x w ha
  have n1 := ha.lo
  have n2 := ha.hi
  clear ha
  have h3 : ¬ k < 1 := by omega
  go_enter Tryd.func35, Tryd.ntmps35
  go_wp2_with fail
  have X : Box ((w.alloc (Obj.cells #[Value.int IntKind.i64 n, Value.int IntKind.u64 (U a.v), Value.int IntKind.u64 (U a.x)] 24)).alloc (Obj.cells #[Value.int IntKind.i64 0, Value.int IntKind.u64 0, Value.int IntKind.u64 0] 24)) (w.heap.size) n (U a.v) (U a.x) ∧ Box ((w.alloc (Obj.cells #[Value.int IntKind.i64 n, Value.int IntKind.u64 (U a.v), Value.int IntKind.u64 (U a.x)] 24)).alloc (Obj.cells #[Value.int IntKind.i64 0, Value.int IntKind.u64 0, Value.int IntKind.u64 0] 24)) (w.heap.size + 1) 0 0 0 ∧ Below w.heap.size w ((w.alloc (Obj.cells #[Value.int IntKind.i64 n, Value.int IntKind.u64 (U a.v), Value.int IntKind.u64 (U a.x)] 24)).alloc (Obj.cells #[Value.int IntKind.i64 0, Value.int IntKind.u64 0, Value.int IntKind.u64 0] 24)) := ⟨⟨by go_simp, by go_simp, by go_simp, fun o => by go_simp⟩, ⟨by go_simp, by go_simp, by go_simp, fun o => by go_simp⟩, (((Below.refl _ _).alloc (by first | exact Nat.le_refl _ | (simp <;> omega)) _).alloc (by first | exact Nat.le_refl _ | (simp <;> omega)) _)⟩
  generalize ((w.alloc (Obj.cells #[Value.int IntKind.i64 n, Value.int IntKind.u64 (U a.v), Value.int IntKind.u64 (U a.x)] 24)).alloc (Obj.cells #[Value.int IntKind.i64 0, Value.int IntKind.u64 0, Value.int IntKind.u64 0] 24)) = wx at X ⊢
  obtain ⟨t0, t1, lo⟩ := X
  obtain ⟨t00, t01, t02, t0f⟩ := id t0
  obtain ⟨t10, t11, t12, t1f⟩ := id t1
  refine (c1.out _).mono ?_
  rintro e wy0 ⟨rfl, hb⟩
  clear t00 t01 t02 t0f t10 t11 t12 t1f
  replace t0 := t0.below hb
  replace t1 := t1.below hb
  replace lo := lo.trans (hb.mono lo.size)
  clear hb
  obtain ⟨t00, t01, t02, t0f⟩ := id t0
  obtain ⟨t10, t11, t12, t1f⟩ := id t1
  go_wp2_with fail
  exact bodyPost_ret (v := .agg #[.int .i64 0, .int .u64 0, .int .u64 0]) (by simp [results, Tryd.results35, go_sem, t10, t11, t12]) rfl ⟨rfl, (by (repeat (first | (with_reducible exact lo) | (with_reducible exact Nat.le_refl _) | (with_reducible refine Below.setCell ?_ ?_ _) | (with_reducible refine Below.alloc ?_ ?_ _) | (with_reducible refine below_drewN ?_ _) | (with_reducible refine Below.drew ?_))) <;> (first | omega | (simp <;> omega)))⟩
set_option maxRecDepth 100000 in
set_option maxHeartbeats 1000000 in
theorem slice_z3 (n : Nat) (a : Vx) (at_ k : Int) (w : World) (ha : a.ok n) (h : 1 ≤ k) (hk : k ≤ 9223372036854775807) (h2 : 0 ≤ at_) (h4 : n - k < at_) : Calls Tryd.prog 35 #[.agg #[.int .i64 n, .int .u64 (U a.v), .int .u64 (U a.x)], .int .i64 at_, .int .i64 k] w fun e w' => e = .returned (.agg #[.int .i64 0, .int .u64 0, .int .u64 0]) ∧ Below w.heap.size w w' := by
  have c1 := Lib.hid fun w => valid_ok n a.v a.x w ha
  have n1 := ha.lo
  have n2 := ha.hi
  clear ha
  have h3 : ¬ k < 1 := by omega
  have h5 : ¬ at_ < 0 := by omega
  go_enter Tryd.func35, Tryd.ntmps35
  go_wp2_with fail
  have X : Box ((w.alloc (Obj.cells #[Value.int IntKind.i64 n, Value.int IntKind.u64 (U a.v), Value.int IntKind.u64 (U a.x)] 24)).alloc (Obj.cells #[Value.int IntKind.i64 0, Value.int IntKind.u64 0, Value.int IntKind.u64 0] 24)) (w.heap.size) n (U a.v) (U a.x) ∧ Box ((w.alloc (Obj.cells #[Value.int IntKind.i64 n, Value.int IntKind.u64 (U a.v), Value.int IntKind.u64 (U a.x)] 24)).alloc (Obj.cells #[Value.int IntKind.i64 0, Value.int IntKind.u64 0, Value.int IntKind.u64 0] 24)) (w.heap.size + 1) 0 0 0 ∧ Below w.heap.size w ((w.alloc (Obj.cells #[Value.int IntKind.i64 n, Value.int IntKind.u64 (U a.v), Value.int IntKind.u64 (U a.x)] 24)).alloc (Obj.cells #[Value.int IntKind.i64 0, Value.int IntKind.u64 0, Value.int IntKind.u64 0] 24)) := ⟨⟨by go_simp, by go_simp, by go_simp, fun o => by go_simp⟩, ⟨by go_simp, by go_simp, by go_simp, fun o => by go_simp⟩, (((Below.refl _ _).alloc (by first | exact Nat.le_refl _ | (simp <;> omega)) _).alloc (by first | exact Nat.le_refl _ | (simp <;> omega)) _)⟩
  generalize ((w.alloc (Obj.cells #[Value.int IntKind.i64 n, Value.int IntKind.u64 (U a.v), Value.int IntKind.u64 (U a.x)] 24)).alloc (Obj.cells #[Value.int IntKind.i64 0, Value.int IntKind.u64 0, Value.int IntKind.u64 0] 24)) = wx at X ⊢
  obtain ⟨t0, t1, lo⟩ := X
  obtain ⟨t00, t01, t02, t0f⟩ := id t0
  obtain ⟨t10, t11, t12, t1f⟩ := id t1
  refine (c1.out _).mono ?_
  rintro e wy0 ⟨rfl, hb⟩
  clear t00 t01 t02 t0f t10 t11 t12 t1f
  replace t0 := t0.below hb
  replace t1 := t1.below hb
  replace lo := lo.trans (hb.mono lo.size)
  clear hb
  obtain ⟨t00, t01, t02, t0f⟩ := id t0
  obtain ⟨t10, t11, t12, t1f⟩ := id t1
  go_wp2_with fail
  exact bodyPost_ret (v := .agg #[.int .i64 0, .int .u64 0, .int .u64 0]) (by simp [results, Tryd.results35, go_sem, t10, t11, t12]) rfl ⟨rfl, (by (repeat (first | (with_reducible exact lo) | (with_reducible exact Nat.le_refl _) | (with_reducible refine Below.setCell ?_ ?_ _) | (with_reducible refine Below.alloc ?_ ?_ _) | (with_reducible refine below_drewN ?_ _) | (with_reducible refine Below.drew ?_))) <;> (first | omega | (simp <;> omega)))⟩
set_option maxRecDepth 100000 in
set_option maxHeartbeats 1000000 in
theorem resize_ill (a : Rb) (k : Int) (s : Bool) (w : World) (h : a.okB = false) : Calls Tryd.prog 38 #[.agg #[.int .i64 a.W, .int .u64 (U a.v), .int .u64 (U a.x)], .int .i64 k, .bool s] w fun e w' => e = .returned (.agg #[.int .i64 0, .int .u64 0, .int .u64 0]) ∧ Below w.heap.size w w' := by
  have c1 := Lib.hid fun w => valid_no a.W a.v a.x w h
  clear h
  go_enter Tryd.func38, Tryd.ntmps38
  go_wp2_with fail
  have X : Box ((w.alloc (Obj.cells #[Value.int IntKind.i64 a.W, Value.int IntKind.u64 (U a.v), Value.int IntKind.u64 (U a.x)] 24)).alloc (Obj.cells #[Value.int IntKind.i64 0, Value.int IntKind.u64 0, Value.int IntKind.u64 0] 24)) (w.heap.size) a.W (U a.v) (U a.x) ∧ Box ((w.alloc (Obj.cells #[Value.int IntKind.i64 a.W, Value.int IntKind.u64 (U a.v), Value.int IntKind.u64 (U a.x)] 24)).alloc (Obj.cells #[Value.int IntKind.i64 0, Value.int IntKind.u64 0, Value.int IntKind.u64 0] 24)) (w.heap.size + 1) 0 0 0 ∧ Below w.heap.size w ((w.alloc (Obj.cells #[Value.int IntKind.i64 a.W, Value.int IntKind.u64 (U a.v), Value.int IntKind.u64 (U a.x)] 24)).alloc (Obj.cells #[Value.int IntKind.i64 0, Value.int IntKind.u64 0, Value.int IntKind.u64 0] 24)) := ⟨⟨by go_simp, by go_simp, by go_simp, fun o => by go_simp⟩, ⟨by go_simp, by go_simp, by go_simp, fun o => by go_simp⟩, (((Below.refl _ _).alloc (by first | exact Nat.le_refl _ | (simp <;> omega)) _).alloc (by first | exact Nat.le_refl _ | (simp <;> omega)) _)⟩
  generalize ((w.alloc (Obj.cells #[Value.int IntKind.i64 a.W, Value.int IntKind.u64 (U a.v), Value.int IntKind.u64 (U a.x)] 24)).alloc (Obj.cells #[Value.int IntKind.i64 0, Value.int IntKind.u64 0, Value.int IntKind.u64 0] 24)) = wx at X ⊢
  obtain ⟨t0, t1, lo⟩ := X
  obtain ⟨t00, t01, t02, t0f⟩ := id t0
  obtain ⟨t10, t11, t12, t1f⟩ := id t1
  refine (c1.out _).mono ?_
  rintro e wy0 ⟨rfl, hb⟩
  clear t00 t01 t02 t0f t10 t11 t12 t1f
  replace t0 := t0.below hb
  replace t1 := t1.below hb
  replace lo := lo.trans (hb.mono lo.size)
  clear hb
  obtain ⟨t00, t01, t02, t0f⟩ := id t0
  obtain ⟨t10, t11, t12, t1f⟩ := id t1
  go_wp2_with fail
  exact bodyPost_ret (v := .agg #[.int .i64 0, .int .u64 0, .int .u64 0]) (by simp [results, Tryd.results38, go_sem, t10, t11, t12]) rfl ⟨rfl, (by (repeat (first | (with_reducible exact lo) | (with_reducible exact Nat.le_refl _) | (with_reducible refine Below.setCell ?_ ?_ _) | (with_reducible refine Below.alloc ?_ ?_ _) | (with_reducible refine below_drewN ?_ _) | (with_reducible refine Below.drew ?_))) <;> (first | omega | (simp <;> omega)))⟩
set_option maxRecDepth 100000 in
set_option maxHeartbeats 1000000 in
theorem resize_lo (n : Nat) (a : Vx) (k : Int) (s : Bool) (w : World) (ha : a.ok n) (h : k < 1) : Calls Tryd.prog 38 #[.agg #[.int .i64 n, .int .u64 (U a.v), .int .u64 (U a.x)], .int .i64 k, .bool s] w fun e w' => e = .returned (.agg #[.int .i64 0, .int .u64 0, .int .u64 0]) ∧ Below w.heap.size w w' := by
  have c1 := Lib.hid fun w => valid_ok n a.v a.x w ha
  have n1 := ha.lo
  have n2 := ha.hi
  clear ha
  go_enter Tryd.func38, Tryd.ntmps38
  go_wp2_with fail
  have X : Box ((w.alloc (Obj.cells #[Value.int IntKind.i64 n, Value.int IntKind.u64 (U a.v), Value.int IntKind.u64 (U a.x)] 24)).alloc (Obj.cells #[Value.int IntKind.i64 0, Value.int IntKind.u64 0, Value.int IntKind.u64 0] 24)) (w.heap.size) n (U a.v) (U a.x) ∧ Box ((w.alloc (Obj.cells #[Value.int IntKind.i64 n, Value.int IntKind.u64 (U a.v), Value.int IntKind.u64 (U a.x)] 24)).alloc (Obj.cells #[Value.int IntKind.i64 0, Value.int IntKind.u64 0, Value.int IntKind.u64 0] 24)) (w.heap.size + 1) 0 0 0 ∧ Below w.heap.size w ((w.alloc (Obj.cells #[Value.int IntKind.i64 n, Value.int IntKind.u64 (U a.v), Value.int IntKind.u64 (U a.x)] 24)).alloc (Obj.cells #[Value.int IntKind.i64 0, Value.int IntKind.u64 0, Value.int IntKind.u64 0] 24)) := ⟨⟨by go_simp, by go_simp, by go_simp, fun o => by go_simp⟩, ⟨by go_simp, by go_simp, by go_simp, fun o => by go_simp⟩, (((Below.refl _ _).alloc (by first | exact Nat.le_refl _ | (simp <;> omega)) _).alloc (by first | exact Nat.le_refl _ | (simp <;> omega)) _)⟩
  generalize ((w.alloc (Obj.cells #[Value.int IntKind.i64 n, Value.int IntKind.u64 (U a.v), Value.int IntKind.u64 (U a.x)] 24)).alloc (Obj.cells #[Value.int IntKind.i64 0, Value.int IntKind.u64 0, Value.int IntKind.u64 0] 24)) = wx at X ⊢
  obtain ⟨t0, t1, lo⟩ := X
  obtain ⟨t00, t01, t02, t0f⟩ := id t0
  obtain ⟨t10, t11, t12, t1f⟩ := id t1
  refine (c1.out _).mono ?_
  rintro e wy0 ⟨rfl, hb⟩
  clear t00 t01 t02 t0f t10 t11 t12 t1f
  replace t0 := t0.below hb
  replace t1 := t1.below hb
  replace lo := lo.trans (hb.mono lo.size)
  clear hb
  obtain ⟨t00, t01, t02, t0f⟩ := id t0
  obtain ⟨t10, t11, t12, t1f⟩ := id t1
  go_wp2_with fail
  exact bodyPost_ret (v := .agg #[.int .i64 0, .int .u64 0, .int .u64 0]) (by simp [results, Tryd.results38, go_sem, t10, t11, t12]) rfl ⟨rfl, (by (repeat (first | (with_reducible exact lo) | (with_reducible exact Nat.le_refl _) | (with_reducible refine Below.setCell ?_ ?_ _) | (with_reducible refine Below.alloc ?_ ?_ _) | (with_reducible refine below_drewN ?_ _) | (with_reducible refine Below.drew ?_))) <;> (first | omega | (simp <;> omega)))⟩
set_option maxRecDepth 100000 in
set_option maxHeartbeats 1000000 in
theorem resize_hi (n : Nat) (a : Vx) (k : Int) (s : Bool) (w : World) (ha : a.ok n) (h : 64 < k) : Calls Tryd.prog 38 #[.agg #[.int .i64 n, .int .u64 (U a.v), .int .u64 (U a.x)], .int .i64 k, .bool s] w fun e w' => e = .returned (.agg #[.int .i64 0, .int .u64 0, .int .u64 0]) ∧ Below w.heap.size w w' := by
  have c1 := Lib.hid fun w => valid_ok n a.v a.x w ha
  have n1 := ha.lo
  have n2 := ha.hi
  clear ha
  have h3 : ¬ k < 1 := by omega
  go_enter Tryd.func38, Tryd.ntmps38
  go_wp2_with fail
  have X : Box ((w.alloc (Obj.cells #[Value.int IntKind.i64 n, Value.int IntKind.u64 (U a.v), Value.int IntKind.u64 (U a.x)] 24)).alloc (Obj.cells #[Value.int IntKind.i64 0, Value.int IntKind.u64 0, Value.int IntKind.u64 0] 24)) (w.heap.size) n (U a.v) (U a.x) ∧ Box ((w.alloc (Obj.cells #[Value.int IntKind.i64 n, Value.int IntKind.u64 (U a.v), Value.int IntKind.u64 (U a.x)] 24)).alloc (Obj.cells #[Value.int IntKind.i64 0, Value.int IntKind.u64 0, Value.int IntKind.u64 0] 24)) (w.heap.size + 1) 0 0 0 ∧ Below w.heap.size w ((w.alloc (Obj.cells #[Value.int IntKind.i64 n, Value.int IntKind.u64 (U a.v), Value.int IntKind.u64 (U a.x)] 24)).alloc (Obj.cells #[Value.int IntKind.i64 0, Value.int IntKind.u64 0, Value.int IntKind.u64 0] 24)) := ⟨⟨by go_simp, by go_simp, by go_simp, fun o => by go_simp⟩, ⟨by go_simp, by go_simp, by go_simp, fun o => by go_simp⟩, (((Below.refl _ _).alloc (by first | exact Nat.le_refl _ | (simp <;> omega)) _).alloc (by first | exact Nat.le_refl _ | (simp <;> omega)) _)⟩
  generalize ((w.alloc (Obj.cells #[Value.int IntKind.i64 n, Value.int IntKind.u64 (U a.v), Value.int IntKind.u64 (U a.x)] 24)).alloc (Obj.cells #[Value.int IntKind.i64 0, Value.int IntKind.u64 0, Value.int IntKind.u64 0] 24)) = wx at X ⊢
  obtain ⟨t0, t1, lo⟩ := X
  obtain ⟨t00, t01, t02, t0f⟩ := id t0
  obtain ⟨t10, t11, t12, t1f⟩ := id t1
  refine (c1.out _).mono ?_
  rintro e wy0 ⟨rfl, hb⟩
  clear t00 t01 t02 t0f t10 t11 t12 t1f
  replace t0 := t0.below hb
  replace t1 := t1.below hb
  replace lo := lo.trans (hb.mono lo.size)
  clear hb
  obtain ⟨t00, t01, t02, t0f⟩ := id t0
  obtain ⟨t10, t11, t12, t1f⟩ := id t1
  go_wp2_with fail
  exact bodyPost_ret (v := .agg #[.int .i64 0, .int .u64 0, .int .u64 0]) (by simp [results, Tryd.results38, go_sem, t10, t11, t12]) rfl ⟨rfl, (by (repeat (first | (with_reducible exact lo) | (with_reducible exact Nat.le_refl _) | (with_reducible refine Below.setCell ?_ ?_ _) | (with_reducible refine Below.alloc ?_ ?_ _) | (with_reducible refine below_drewN ?_ _) | (with_reducible refine Below.drew ?_))) <;> (first | omega | (simp <;> omega)))⟩
set_option maxRecDepth 100000 in
set_option maxHeartbeats 1000000 in
theorem put_ill1 (a p : Rb) (at_ : Int) (w : World) (h : a.okB = false) : Calls Tryd.prog 37 #[.agg #[.int .i64 a.W, .int .u64 (U a.v), .int .u64 (U a.x)], .int .i64 at_, .agg #[.int .i64 p.W, .int .u64 (U p.v), .int .u64 (U p.x)]] w fun e w' => e = .returned (.agg #[.int .i64 0, .int .u64 0, .int .u64 0]) ∧ Below w.heap.size w w' := by
  have c1 := Lib.hid fun w => valid_no a.W a.v a.x w h
  clear h
  go_enter Tryd.func37, Tryd.ntmps37
  go_wp2_with fail
  have X : Box (((w.alloc (Obj.cells #[Value.int IntKind.i64 a.W, Value.int IntKind.u64 (U a.v), Value.int IntKind.u64 (U a.x)] 24)).alloc (Obj.cells #[Value.int IntKind.i64 p.W, Value.int IntKind.u64 (U p.v), Value.int IntKind.u64 (U p.x)] 24)).alloc (Obj.cells #[Value.int IntKind.i64 0, Value.int IntKind.u64 0, Value.int IntKind.u64 0] 24)) (w.heap.size) a.W (U a.v) (U a.x) ∧ Box (((w.alloc (Obj.cells #[Value.int IntKind.i64 a.W, Value.int IntKind.u64 (U a.v), Value.int IntKind.u64 (U a.x)] 24)).alloc (Obj.cells #[Value.int IntKind.i64 p.W, Value.int IntKind.u64 (U p.v), Value.int IntKind.u64 (U p.x)] 24)).alloc (Obj.cells #[Value.int IntKind.i64 0, Value.int IntKind.u64 0, Value.int IntKind.u64 0] 24)) (w.heap.size + 1) p.W (U p.v) (U p.x) ∧ Box (((w.alloc (Obj.cells #[Value.int IntKind.i64 a.W, Value.int IntKind.u64 (U a.v), Value.int IntKind.u64 (U a.x)] 24)).alloc (Obj.cells #[Value.int IntKind.i64 p.W, Value.int IntKind.u64 (U p.v), Value.int IntKind.u64 (U p.x)] 24)).alloc (Obj.cells #[Value.int IntKind.i64 0, Value.int IntKind.u64 0, Value.int IntKind.u64 0] 24)) (w.heap.size + 1 + 1) 0 0 0 ∧ Below w.heap.size w (((w.alloc (Obj.cells #[Value.int IntKind.i64 a.W, Value.int IntKind.u64 (U a.v), Value.int IntKind.u64 (U a.x)] 24)).alloc (Obj.cells #[Value.int IntKind.i64 p.W, Value.int IntKind.u64 (U p.v), Value.int IntKind.u64 (U p.x)] 24)).alloc (Obj.cells #[Value.int IntKind.i64 0, Value.int IntKind.u64 0, Value.int IntKind.u64 0] 24)) := ⟨⟨by go_simp, by go_simp, by go_simp, fun o => by go_simp⟩, ⟨by go_simp, by go_simp, by go_simp, fun o => by go_simp⟩, ⟨by go_simp, by go_simp, by go_simp, fun o => by go_simp⟩, ((((Below.refl _ _).alloc (by first | exact Nat.le_refl _ | (simp <;> omega)) _).alloc (by first | exact Nat.le_refl _ | (simp <;> omega)) _).alloc (by first | exact Nat.le_refl _ | (simp <;> omega)) _)⟩
  generalize (((w.alloc (Obj.cells #[Value.int IntKind.i64 a.W, Value.int IntKind.u64 (U a.v), Value.int IntKind.u64 (U a.x)] 24)).alloc (Obj.cells #[Value.int IntKind.i64 p.W, Value.int IntKind.u64 (U p.v), Value.int IntKind.u64 (U p.x)] 24)).alloc (Obj.cells #[Value.int IntKind.i64 0, Value.int IntKind.u64 0, Value.int IntKind.u64 0] 24)) = wx at X ⊢
  obtain ⟨t0, t1, t2, lo⟩ := X
  obtain ⟨t00, t01, t02, t0f⟩ := id t0
  obtain ⟨t10, t11, t12, t1f⟩ := id t1
  obtain ⟨t20, t21, t22, t2f⟩ := id t2
  refine (c1.out _).mono ?_
  rintro e wy0 ⟨rfl, hb⟩
  clear t00 t01 t02 t0f t10 t11 t12 t1f t20 t21 t22 t2f
  replace t0 := t0.below hb
  replace t1 := t1.below hb
  replace t2 := t2.below hb
  replace lo := lo.trans (hb.mono lo.size)
  clear hb
  obtain ⟨t00, t01, t02, t0f⟩ := id t0
  obtain ⟨t10, t11, t12, t1f⟩ := id t1
  obtain ⟨t20, t21, t22, t2f⟩ := id t2
  go_wp2_with fail
  exact bodyPost_ret (v := .agg #[.int .i64 0, .int .u64 0, .int .u64 0]) (by simp [results, Tryd.results37, go_sem, t20, t21, t22]) rfl ⟨rfl, (by (repeat (first | (with_reducible exact lo) | (with_reducible exact Nat.le_refl _) | (with_reducible refine Below.setCell ?_ ?_ _) | (with_reducible refine Below.alloc ?_ ?_ _) | (with_reducible refine below_drewN ?_ _) | (with_reducible refine Below.drew ?_))) <;> (first | omega | (simp <;> omega)))⟩
set_option maxRecDepth 100000 in
set_option maxHeartbeats 1000000 in
theorem put_ill2 (n : Nat) (a : Vx) (p : Rb) (at_ : Int) (w : World) (ha : a.ok n) (h : p.okB = false) : Calls Tryd.prog 37 #[.agg #[.int .i64 n, .int .u64 (U a.v), .int .u64 (U a.x)], .int .i64 at_, .agg #[.int .i64 p.W, .int .u64 (U p.v), .int .u64 (U p.x)]] w fun e w' => e = .returned (.agg #[.int .i64 0, .int .u64 0, .int .u64 0]) ∧ Below w.heap.size w w' := by
  have c1 := Lib.hid fun w => valid_ok n a.v a.x w ha
  have c2 := Lib.hid fun w => valid_no p.W p.v p.x w h
  clear h ha
  go_enter Tryd.func37, Tryd.ntmps37
  go_wp2_with fail
  have X : Box (((w.alloc (Obj.cells #[Value.int IntKind.i64 n, Value.int IntKind.u64 (U a.v), Value.int IntKind.u64 (U a.x)] 24)).alloc (Obj.cells #[Value.int IntKind.i64 p.W, Value.int IntKind.u64 (U p.v), Value.int IntKind.u64 (U p.x)] 24)).alloc (Obj.cells #[Value.int IntKind.i64 0, Value.int IntKind.u64 0, Value.int IntKind.u64 0] 24)) (w.heap.size) n (U a.v) (U a.x) ∧ Box (((w.alloc (Obj.cells #[Value.int IntKind.i64 n, Value.int IntKind.u64 (U a.v), Value.int IntKind.u64 (U a.x)] 24)).alloc (Obj.cells #[Value.int IntKind.i64 p.W, Value.int IntKind.u64 (U p.v), Value.int IntKind.u64 (U p.x)] 24)).alloc (Obj.cells #[Value.int IntKind.i64 0, Value.int IntKind.u64 0, Value.int IntKind.u64 0] 24)) (w.heap.size + 1) p.W (U p.v) (U p.x) ∧ Box (((w.alloc (Obj.cells #[Value.int IntKind.i64 n, Value.int IntKind.u64 (U a.v), Value.int IntKind.u64 (U a.x)] 24)).alloc (Obj.cells #[Value.int IntKind.i64 p.W, Value.int IntKind.u64 (U p.v), Value.int IntKind.u64 (U p.x)] 24)).alloc (Obj.cells #[Value.int IntKind.i64 0, Value.int IntKind.u64 0, Value.int IntKind.u64 0] 24)) (w.heap.size + 1 + 1) 0 0 0 ∧ Below w.heap.size w (((w.alloc (Obj.cells #[Value.int IntKind.i64 n, Value.int IntKind.u64 (U a.v), Value.int IntKind.u64 (U a.x)] 24)).alloc (Obj.cells #[Value.int IntKind.i64 p.W, Value.int IntKind.u64 (U p.v), Value.int IntKind.u64 (U p.x)] 24)).alloc (Obj.cells #[Value.int IntKind.i64 0, Value.int IntKind.u64 0, Value.int IntKind.u64 0] 24)) := ⟨⟨by go_simp, by go_simp, by go_simp, fun o => by go_simp⟩, ⟨by go_simp, by go_simp, by go_simp, fun o => by go_simp⟩, ⟨by go_simp, by go_simp, by go_simp, fun o => by go_simp⟩, ((((Below.refl _ _).alloc (by first | exact Nat.le_refl _ | (simp <;> omega)) _).alloc (by first | exact Nat.le_refl _ | (simp <;> omega)) _).alloc (by first | exact Nat.le_refl _ | (simp <;> omega)) _)⟩
  generalize (((w.alloc (Obj.cells #[Value.int IntKind.i64 n, Value.int IntKind.u64 (U a.v), Value.int IntKind.u64 (U a.x)] 24)).alloc (Obj.cells #[Value.int IntKind.i64 p.W, Value.int IntKind.u64 (U p.v), Value.int IntKind.u64 (U p.x)] 24)).alloc (Obj.cells #[Value.int IntKind.i64 0, Value.int IntKind.u64 0, Value.int IntKind.u64 0] 24)) = wx at X ⊢
  obtain ⟨t0, t1, t2, lo⟩ := X
  obtain ⟨t00, t01, t02, t0f⟩ := id t0
  obtain ⟨t10, t11, t12, t1f⟩ := id t1
  obtain ⟨t20, t21, t22, t2f⟩ := id t2
  refine (c1.out _).mono ?_
  rintro e wy0 ⟨rfl, hb⟩
  clear t00 t01 t02 t0f t10 t11 t12 t1f t20 t21 t22 t2f
  replace t0 := t0.below hb
  replace t1 := t1.below hb
  replace t2 := t2.below hb
  replace lo := lo.trans (hb.mono lo.size)
  clear hb
  obtain ⟨t00, t01, t02, t0f⟩ := id t0
  obtain ⟨t10, t11, t12, t1f⟩ := id t1
  obtain ⟨t20, t21, t22, t2f⟩ := id t2
  go_wp2_with fail
  refine (c2.out _).mono ?_
  rintro e wy1 ⟨rfl, hb⟩
  clear t00 t01 t02 t0f t10 t11 t12 t1f t20 t21 t22 t2f
  replace t0 := t0.below hb
  replace t1 := t1.below hb
  replace t2 := t2.below hb
  replace lo := lo.trans (hb.mono lo.size)
  clear hb
  obtain ⟨t00, t01, t02, t0f⟩ := id t0
  obtain ⟨t10, t11, t12, t1f⟩ := id t1
  obtain ⟨t20, t21, t22, t2f⟩ := id t2
  go_wp2_with fail
  exact bodyPost_ret (v := .agg #[.int .i64 0, .int .u64 0, .int .u64 0]) (by simp [results, Tryd.results37, go_sem, t20, t21, t22]) rfl ⟨rfl, (by (repeat (first | (with_reducible exact lo) | (with_reducible exact Nat.le_refl _) | (with_reducible refine Below.setCell ?_ ?_ _) | (with_reducible refine Below.alloc ?_ ?_ _) | (with_reducible refine below_drewN ?_ _) | (with_reducible refine Below.drew ?_))) <;> (first | omega | (simp <;> omega)))⟩
set_option maxRecDepth 100000 in
set_option maxHeartbeats 1000000 in
theorem part_ill1 (a p : Rb) (s : Bool) (k : Int) (w : World) (h : a.okB = false) : Calls Tryd.prog 36 #[.agg #[.int .i64 a.W, .int .u64 (U a.v), .int .u64 (U a.x)], .agg #[.int .i64 p.W, .int .u64 (U p.v), .int .u64 (U p.x)], .bool s, .int .i64 k] w fun e w' => e = .returned (.agg #[.int .i64 0, .int .u64 0, .int .u64 0]) ∧ Below w.heap.size w w' := by
  have c1 := Lib.hid fun w => valid_no a.W a.v a.x w h
  clear h
  go_enter Tryd.func36, Tryd.ntmps36
  go_wp2_with fail
  have X : Box (((w.alloc (Obj.cells #[Value.int IntKind.i64 a.W, Value.int IntKind.u64 (U a.v), Value.int IntKind.u64 (U a.x)] 24)).alloc (Obj.cells #[Value.int IntKind.i64 p.W, Value.int IntKind.u64 (U p.v), Value.int IntKind.u64 (U p.x)] 24)).alloc (Obj.cells #[Value.int IntKind.i64 0, Value.int IntKind.u64 0, Value.int IntKind.u64 0] 24)) (w.heap.size) a.W (U a.v) (U a.x) ∧ Box (((w.alloc (Obj.cells #[Value.int IntKind.i64 a.W, Value.int IntKind.u64 (U a.v), Value.int IntKind.u64 (U a.x)] 24)).alloc (Obj.cells #[Value.int IntKind.i64 p.W, Value.int IntKind.u64 (U p.v), Value.int IntKind.u64 (U p.x)] 24)).alloc (Obj.cells #[Value.int IntKind.i64 0, Value.int IntKind.u64 0, Value.int IntKind.u64 0] 24)) (w.heap.size + 1) p.W (U p.v) (U p.x) ∧ Box (((w.alloc (Obj.cells #[Value.int IntKind.i64 a.W, Value.int IntKind.u64 (U a.v), Value.int IntKind.u64 (U a.x)] 24)).alloc (Obj.cells #[Value.int IntKind.i64 p.W, Value.int IntKind.u64 (U p.v), Value.int IntKind.u64 (U p.x)] 24)).alloc (Obj.cells #[Value.int IntKind.i64 0, Value.int IntKind.u64 0, Value.int IntKind.u64 0] 24)) (w.heap.size + 1 + 1) 0 0 0 ∧ Below w.heap.size w (((w.alloc (Obj.cells #[Value.int IntKind.i64 a.W, Value.int IntKind.u64 (U a.v), Value.int IntKind.u64 (U a.x)] 24)).alloc (Obj.cells #[Value.int IntKind.i64 p.W, Value.int IntKind.u64 (U p.v), Value.int IntKind.u64 (U p.x)] 24)).alloc (Obj.cells #[Value.int IntKind.i64 0, Value.int IntKind.u64 0, Value.int IntKind.u64 0] 24)) := ⟨⟨by go_simp, by go_simp, by go_simp, fun o => by go_simp⟩, ⟨by go_simp, by go_simp, by go_simp, fun o => by go_simp⟩, ⟨by go_simp, by go_simp, by go_simp, fun o => by go_simp⟩, ((((Below.refl _ _).alloc (by first | exact Nat.le_refl _ | (simp <;> omega)) _).alloc (by first | exact Nat.le_refl _ | (simp <;> omega)) _).alloc (by first | exact Nat.le_refl _ | (simp <;> omega)) _)⟩
  generalize (((w.alloc (Obj.cells #[Value.int IntKind.i64 a.W, Value.int IntKind.u64 (U a.v), Value.int IntKind.u64 (U a.x)] 24)).alloc (Obj.cells #[Value.int IntKind.i64 p.W, Value.int IntKind.u64 (U p.v), Value.int IntKind.u64 (U p.x)] 24)).alloc (Obj.cells #[Value.int IntKind.i64 0, Value.int IntKind.u64 0, Value.int IntKind.u64 0] 24)) = wx at X ⊢
  obtain ⟨t0, t1, t2, lo⟩ := X
  obtain ⟨t00, t01, t02, t0f⟩ := id t0
  obtain ⟨t10, t11, t12, t1f⟩ := id t1
  obtain ⟨t20, t21, t22, t2f⟩ := id t2
  refine (c1.out _).mono ?_
  rintro e wy0 ⟨rfl, hb⟩
  clear t00 t01 t02 t0f t10 t11 t12 t1f t20 t21 t22 t2f
  replace t0 := t0.below hb
  replace t1 := t1.below hb
  replace t2 := t2.below hb
  replace lo := lo.trans (hb.mono lo.size)
  clear hb
  obtain ⟨t00, t01, t02, t0f⟩ := id t0
  obtain ⟨t10, t11, t12, t1f⟩ := id t1
  obtain ⟨t20, t21, t22, t2f⟩ := id t2
  go_wp2_with fail
  exact bodyPost_ret (v := .agg #[.int .i64 0, .int .u64 0, .int .u64 0]) (by simp [results, Tryd.results36, go_sem, t20, t21, t22]) rfl ⟨rfl, (by (repeat (first | (with_reducible exact lo) | (with_reducible exact Nat.le_refl _) | (with_reducible refine Below.setCell ?_ ?_ _) | (with_reducible refine Below.alloc ?_ ?_ _) | (with_reducible refine below_drewN ?_ _) | (with_reducible refine Below.drew ?_))) <;> (first | omega | (simp <;> omega)))⟩
set_option maxRecDepth 100000 in
set_option maxHeartbeats 1000000 in
theorem part_ill2 (n : Nat) (a : Vx) (p : Rb) (s : Bool) (k : Int) (w : World) (ha : a.ok n) (h : p.okB = false) : Calls Tryd.prog 36 #[.agg #[.int .i64 n, .int .u64 (U a.v), .int .u64 (U a.x)], .agg #[.int .i64 p.W, .int .u64 (U p.v), .int .u64 (U p.x)], .bool s, .int .i64 k] w fun e w' => e = .returned (.agg #[.int .i64 0, .int .u64 0, .int .u64 0]) ∧ Below w.heap.size w w' := by
  have c1 := Lib.hid fun w => valid_ok n a.v a.x w ha
  have c2 := Lib.hid fun w => valid_no p.W p.v p.x w h
  clear h ha
  go_enter Tryd.func36, Tryd.ntmps36
  go_wp2_with fail
  have X : Box (((w.alloc (Obj.cells #[Value.int IntKind.i64 n, Value.int IntKind.u64 (U a.v), Value.int IntKind.u64 (U a.x)] 24)).alloc (Obj.cells #[Value.int IntKind.i64 p.W, Value.int IntKind.u64 (U p.v), Value.int IntKind.u64 (U p.x)] 24)).alloc (Obj.cells #[Value.int IntKind.i64 0, Value.int IntKind.u64 0, Value.int IntKind.u64 0] 24)) (w.heap.size) n (U a.v) (U a.x) ∧ Box (((w.alloc (Obj.cells #[Value.int IntKind.i64 n, Value.int IntKind.u64 (U a.v), Value.int IntKind.u64 (U a.x)] 24)).alloc (Obj.cells #[Value.int IntKind.i64 p.W, Value.int IntKind.u64 (U p.v), Value.int IntKind.u64 (U p.x)] 24)).alloc (Obj.cells #[Value.int IntKind.i64 0, Value.int IntKind.u64 0, Value.int IntKind.u64 0] 24)) (w.heap.size + 1) p.W (U p.v) (U p.x) ∧ Box (((w.alloc (Obj.cells #[Value.int IntKind.i64 n, Value.int IntKind.u64 (U a.v), Value.int IntKind.u64 (U a.x)] 24)).alloc (Obj.cells #[Value.int IntKind.i64 p.W, Value.int IntKind.u64 (U p.v), Value.int IntKind.u64 (U p.x)] 24)).alloc (Obj.cells #[Value.int IntKind.i64 0, Value.int IntKind.u64 0, Value.int IntKind.u64 0] 24)) (w.heap.size + 1 + 1) 0 0 0 ∧ Below w.heap.size w (((w.alloc (Obj.cells #[Value.int IntKind.i64 n, Value.int IntKind.u64 (U a.v), Value.int IntKind.u64 (U a.x)] 24)).alloc (Obj.cells #[Value.int IntKind.i64 p.W, Value.int IntKind.u64 (U p.v), Value.int IntKind.u64 (U p.x)] 24)).alloc (Obj.cells #[Value.int IntKind.i64 0, Value.int IntKind.u64 0, Value.int IntKind.u64 0] 24)) := ⟨⟨by go_simp, by go_simp, by go_simp, fun o => by go_simp⟩, ⟨by go_simp, by go_simp, by go_simp, fun o => by go_simp⟩, ⟨by go_simp, by go_simp, by go_simp, fun o => by go_simp⟩, ((((Below.refl _ _).alloc (by first | exact Nat.le_refl _ | (simp <;> omega)) _).alloc (by first | exact Nat.le_refl _ | (simp <;> omega)) _).alloc (by first | exact Nat.le_refl _ | (simp <;> omega)) _)⟩
  generalize (((w.alloc (Obj.cells #[Value.int IntKind.i64 n, Value.int IntKind.u64 (U a.v), Value.int IntKind.u64 (U a.x)] 24)).alloc (Obj.cells #[Value.int IntKind.i64 p.W, Value.int IntKind.u64 (U p.v), Value.int IntKind.u64 (U p.x)] 24)).alloc (Obj.cells #[Value.int IntKind.i64 0, Value.int IntKind.u64 0, Value.int IntKind.u64 0] 24)) = wx at X ⊢
  obtain ⟨t0, t1, t2, lo⟩ := X
  obtain ⟨t00, t01, t02, t0f⟩ := id t0
  obtain ⟨t10, t11, t12, t1f⟩ := id t1
  obtain ⟨t20, t21, t22, t2f⟩ := id t2
  refine (c1.out _).mono ?_
  rintro e wy0 ⟨rfl, hb⟩
  clear t00 t01 t02 t0f t10 t11 t12 t1f t20 t21 t22 t2f
  replace t0 := t0.below hb
  replace t1 := t1.below hb
  replace t2 := t2.below hb
  replace lo := lo.trans (hb.mono lo.size)
  clear hb
  obtain ⟨t00, t01, t02, t0f⟩ := id t0
  obtain ⟨t10, t11, t12, t1f⟩ := id t1
  obtain ⟨t20, t21, t22, t2f⟩ := id t2
  go_wp2_with fail
  refine (c2.out _).mono ?_
  rintro e wy1 ⟨rfl, hb⟩
  clear t00 t01 t02 t0f t10 t11 t12 t1f t20 t21 t22 t2f
  replace t0 := t0.below hb
  replace t1 := t1.below hb
  replace t2 := t2.below hb
  replace lo := lo.trans (hb.mono lo.size)
  clear hb
  obtain ⟨t00, t01, t02, t0f⟩ := id t0
  obtain ⟨t10, t11, t12, t1f⟩ := id t1
  obtain ⟨t20, t21, t22, t2f⟩ := id t2
  go_wp2_with fail
  exact bodyPost_ret (v := .agg #[.int .i64 0, .int .u64 0, .int .u64 0]) (by simp [results, Tryd.results36, go_sem, t20, t21, t22]) rfl ⟨rfl, (by (repeat (first | (with_reducible exact lo) | (with_reducible exact Nat.le_refl _) | (with_reducible refine Below.setCell ?_ ?_ _) | (with_reducible refine Below.alloc ?_ ?_ _) | (with_reducible refine below_drewN ?_ _) | (with_reducible refine Below.drew ?_))) <;> (first | omega | (simp <;> omega)))⟩
set_option maxHeartbeats 400000 in
theorem up_big (v : BitVec 64) (k : Nat) (w : World) : Calls Tryd.prog 60 #[.int .u64 (U v), .int .i64 k] w fun e w' => e = .returned (.int .u64 (U (v <<< k))) ∧ w' = w := by
  go_enter Tryd.func60, Tryd.ntmps60
  go_wp2_with fail
  go_ret
  exact ⟨ret_int (by first | rfl | exact congrArg U (shl_min v k)), rfl⟩
theorem neg_wrap2 (k : Nat) (h : k ≤ 9223372036854775808) : IntKind.u64.wrap (-IntKind.u64.wrap (-(k : Int))) = (k : Int) := by
  rw [IntKind.wrap_u64, IntKind.wrap_u64]; omega
set_option maxHeartbeats 400000 in
theorem up_dnbig (v : BitVec 64) (k : Nat) (w : World) (h1 : 1 ≤ k) (h : k ≤ 9223372036854775808) : Calls Tryd.prog 60 #[.int .u64 (U v), .int .i64 (-(k : Int))] w fun e w' => e = .returned (.int .u64 (U (v >>> k))) ∧ w' = w := by
  have hw := neg_wrap2 k h
  have hlt : -(k : Int) < 0 := by omega
  clear h
  go_enter Tryd.func60, Tryd.ntmps60
  go_wp2_with fail
  go_ret
  exact ⟨ret_int (by first | rfl | rw [shr_min]), rfl⟩
set_option maxRecDepth 100000 in
set_option maxHeartbeats 1000000 in
theorem put_big (n m k : Nat) (a p : Vx) (w : World) (ha : a.ok n) (hp : p.ok m) (hn : n ≤ 64) (hm : m ≤ 64) : Calls Tryd.prog 37 #[.agg #[.int .i64 n, .int .u64 (U a.v), .int .u64 (U a.x)], .int .i64 k, .agg #[.int .i64 m, .int .u64 (U p.v), .int .u64 (U p.x)]] w fun e w' => e = .returned (.agg #[.int .i64 n, .int .u64 (U (vput n m a k p).v), .int .u64 (U (vput n m a k p).x)]) ∧ Below w.heap.size w w' := by
  go_enter Tryd.func37, Tryd.ntmps37
  go_wp2_with fail
  refine (valid_ok n a.v a.x _ ha).mono ?_
  rintro e w1 ⟨rfl, hb1⟩
  obtain ⟨hc1, hf1⟩ := bcell hb1
  have z1_0 : w.heap.size < w1.heap.size := bsize hb1 (by first | omega | (simp <;> omega))
  have z1_1 : w.heap.size + 1 < w1.heap.size := bsize hb1 (by first | omega | (simp <;> omega))
  have z1_2 : w.heap.size + 2 < w1.heap.size := bsize hb1 (by first | omega | (simp <;> omega))
  go_wp2_with fail
  refine (valid_ok m p.v p.x _ hp).mono ?_
  rintro e w2 ⟨rfl, hb2⟩
  obtain ⟨hc2, hf2⟩ := bcell hb2
  have z2_0 : w.heap.size < w2.heap.size := bsize hb2 (by first | omega | (simp <;> omega))
  have z2_1 : w.heap.size + 1 < w2.heap.size := bsize hb2 (by first | omega | (simp <;> omega))
  have z2_2 : w.heap.size + 2 < w2.heap.size := bsize hb2 (by first | omega | (simp <;> omega))
  go_wp2_with fail
  go_quiet (first | (go_at_call 44; exact Calls.quiet_of_same (mask_q _ (by omega) _)) | (go_at_call 60; exact Calls.quiet_of_same (up_big _ _ _)))
  go_wp2_with fail
  have hb3 := below_drewN (Below.refl w2.heap.size w2) nq
  generalize w2.drewN nq = w3 at hb3 ⊢
  obtain ⟨hc3, hf3⟩ := bcell hb3
  have z3_0 : w.heap.size < w3.heap.size := bsize hb3 (by first | omega | (simp <;> omega))
  have z3_1 : w.heap.size + 1 < w3.heap.size := bsize hb3 (by first | omega | (simp <;> omega))
  have z3_2 : w.heap.size + 2 < w3.heap.size := bsize hb3 (by first | omega | (simp <;> omega))
  refine wp_region_still_tail 25 (by kernel_rfl) (by kernel_rfl) ?_
  simp only [List.take_succ_cons, List.take_zero, List.drop_succ_cons, List.drop_zero]
  repeat (first | still_step | still_call (up_big _ _ _))
  refine wpStill_nil ?_
  change wpList _ _ _ _ _ (World.drew _)
  go_wp2_with fail
  exact bodyPost_ret (v := .agg #[.int .i64 n, .int .u64 (U (vput n m a k p).v), .int .u64 (U (vput n m a k p).x)]) (by simp [results, Tryd.results37, go_sem, hc1, z1_2, hc2, z2_2, hc3] <;> first | rfl | exact ⟨rfl, rfl⟩ | exact ⟨rfl, rfl, rfl⟩) rfl ⟨rfl, by (repeat (first | exact Below.refl _ _ | exact Nat.le_refl _ | refine below_drewN ?_ _ | refine Below.drew ?_ | refine Below.alloc ?_ ?_ _ | refine Below.setCell ?_ ?_ _ | refine below_step (by assumption) ?_ ?_)) <;> (first | omega | (simp <;> omega))⟩
set_option maxRecDepth 100000 in
set_option maxHeartbeats 1000000 in
theorem putd_big (n m k : Nat) (a p : Vx) (w : World) (ha : a.ok n) (hp : p.ok m) (hn : n ≤ 64) (hm : m ≤ 64) (h1 : 1 ≤ k) (hk : Hid (k ≤ 9223372036854775808)) : Calls Tryd.prog 37 #[.agg #[.int .i64 n, .int .u64 (U a.v), .int .u64 (U a.x)], .int .i64 (-(k : Int)), .agg #[.int .i64 m, .int .u64 (U p.v), .int .u64 (U p.x)]] w fun e w' => e = .returned (.agg #[.int .i64 n, .int .u64 (U (vputd n m a k p).v), .int .u64 (U (vputd n m a k p).x)]) ∧ Below w.heap.size w w' := by
  go_enter Tryd.func37, Tryd.ntmps37
  go_wp2_with fail
  refine (valid_ok n a.v a.x _ ha).mono ?_
  rintro e w1 ⟨rfl, hb1⟩
  obtain ⟨hc1, hf1⟩ := bcell hb1
  have z1_0 : w.heap.size < w1.heap.size := bsize hb1 (by first | omega | (simp <;> omega))
  have z1_1 : w.heap.size + 1 < w1.heap.size := bsize hb1 (by first | omega | (simp <;> omega))
  have z1_2 : w.heap.size + 2 < w1.heap.size := bsize hb1 (by first | omega | (simp <;> omega))
  go_wp2_with fail
  refine (valid_ok m p.v p.x _ hp).mono ?_
  rintro e w2 ⟨rfl, hb2⟩
  obtain ⟨hc2, hf2⟩ := bcell hb2
  have z2_0 : w.heap.size < w2.heap.size := bsize hb2 (by first | omega | (simp <;> omega))
  have z2_1 : w.heap.size + 1 < w2.heap.size := bsize hb2 (by first | omega | (simp <;> omega))
  have z2_2 : w.heap.size + 2 < w2.heap.size := bsize hb2 (by first | omega | (simp <;> omega))
  go_wp2_with fail
  go_quiet (first | (go_at_call 44; exact Calls.quiet_of_same (mask_q _ (by omega) _)) | (go_at_call 60; exact Calls.quiet_of_same (up_dnbig _ _ _ h1 hk.out)))
  go_wp2_with fail
  have hb3 := below_drewN (Below.refl w2.heap.size w2) nq
  generalize w2.drewN nq = w3 at hb3 ⊢
  obtain ⟨hc3, hf3⟩ := bcell hb3
  have z3_0 : w.heap.size < w3.heap.size := bsize hb3 (by first | omega | (simp <;> omega))
  have z3_1 : w.heap.size + 1 < w3.heap.size := bsize hb3 (by first | omega | (simp <;> omega))
  have z3_2 : w.heap.size + 2 < w3.heap.size := bsize hb3 (by first | omega | (simp <;> omega))
  refine wp_region_still_tail 25 (by kernel_rfl) (by kernel_rfl) ?_
  simp only [List.take_succ_cons, List.take_zero, List.drop_succ_cons, List.drop_zero]
  repeat (first | still_step | still_call (up_dnbig _ _ _ h1 hk.out))
  refine wpStill_nil ?_
  change wpList _ _ _ _ _ (World.drew _)
  go_wp2_with fail
  exact bodyPost_ret (v := .agg #[.int .i64 n, .int .u64 (U (vputd n m a k p).v), .int .u64 (U (vputd n m a k p).x)]) (by simp [results, Tryd.results37, go_sem, hc1, z1_0, z1_1, z1_2, hc2, z2_0, z2_1, z2_2, hc3, z3_0, z3_1, z3_2] <;> first | rfl | exact ⟨rfl, rfl⟩ | exact ⟨rfl, rfl, rfl⟩) rfl ⟨rfl, by (repeat (first | exact Below.refl _ _ | exact Nat.le_refl _ | refine below_drewN ?_ _ | refine Below.drew ?_ | refine Below.alloc ?_ ?_ _ | refine Below.setCell ?_ ?_ _ | refine below_step (by assumption) ?_ ?_)) <;> (first | omega | (simp <;> omega))⟩
end Go.Proofs.YtdpmojkpfnkcdaaDoor
namespace Go.Proofs.YtdpmojkpfnkcdaaDoor
open Go Go.RowKit Go.Sort
set_option linter.unusedVariables false
/-- a vector put at a position of whatever sign -/
def vpi (n m : Nat) (a : Vx) (at_ : Int) (p : Vx) : Vx := if 0 ≤ at_ then vput n m a at_.toNat p else vputd n m a (-at_).toNat p
theorem vpi_ok {n m : Nat} {a p : Vx} {at_ : Int} (ha : a.ok n) : (vpi n m a at_ p).ok n := by
  unfold vpi; split
  · exact vput_ok ha
  · exact vputd_ok ha _ p
theorem put_int (n m : Nat) (a p : Vx) (at_ : Int) (w : World) (ha : a.ok n) (hp : p.ok m) (h : Hid (-9223372036854775808 ≤ at_)) : Calls Tryd.prog 37 #[.agg #[.int .i64 n, .int .u64 (U a.v), .int .u64 (U a.x)], .int .i64 at_, .agg #[.int .i64 m, .int .u64 (U p.v), .int .u64 (U p.x)]] w fun e w' => e = .returned (.agg #[.int .i64 n, .int .u64 (U (vpi n m a at_ p).v), .int .u64 (U (vpi n m a at_ p).x)]) ∧ Below w.heap.size w w' := by
  unfold vpi
  by_cases h0 : 0 ≤ at_
  · rw [if_pos h0]
    obtain ⟨k, rfl⟩ : ∃ k : Nat, at_ = k := ⟨at_.toNat, by omega⟩
    rw [Int.toNat_natCast]
    exact put_big n m k a p w ha hp ha.hi hp.hi
  · rw [if_neg h0]
    obtain ⟨k, rfl⟩ : ∃ k : Nat, at_ = -(k : Int) := ⟨(-at_).toNat, by omega⟩
    rw [Int.neg_neg, Int.toNat_natCast]
    exact putd_big n m k a p w ha hp ha.hi hp.hi (by omega) (show k ≤ 9223372036854775808 from by have := h.out; omega)
set_option maxRecDepth 100000 in
set_option maxHeartbeats 2000000 in
theorem part_gu (n q : Nat) (a c : Vx) (m g : Int) (t r : Rb) (w : World) (ha : a.ok n) (hc : c.ok q) (hx : (c.x == 0#64) = true) (h0 : 0 ≤ g) (h64 : g ≤ 64) (hg : min (U c.v) 64 = g) (hall : ∀ w, Calls Tryd.prog 18 #[.int .i64 m, .int .u8 120] w fun e w' => e = .returned (.agg #[.int .i64 t.W, .int .u64 (U t.v), .int .u64 (U t.x)]) ∧ Below w.heap.size w w') (hput : ∀ w, Calls Tryd.prog 37 #[.agg #[.int .i64 t.W, .int .u64 (U t.v), .int .u64 (U t.x)], .int .i64 (-g), .agg #[.int .i64 n, .int .u64 (U a.v), .int .u64 (U a.x)]] w fun e w' => e = .returned (.agg #[.int .i64 r.W, .int .u64 (U r.v), .int .u64 (U r.x)]) ∧ Below w.heap.size w w') : Calls Tryd.prog 36 #[.agg #[.int .i64 n, .int .u64 (U a.v), .int .u64 (U a.x)], .agg #[.int .i64 q, .int .u64 (U c.v), .int .u64 (U c.x)], .bool false, .int .i64 m] w fun e w' => e = .returned (.agg #[.int .i64 r.W, .int .u64 (U r.v), .int .u64 (U r.x)]) ∧ Below w.heap.size w w' := by
  have c1 := Lib.hid fun w => valid_ok n a.v a.x w ha
  have c2 := Lib.hid fun w => valid_ok q c.v c.x w hc
  have c3 := Lib.hid fun w => known_yes q c w hc hx
  have HA := Lib.hid hall
  have HP := Lib.hid hput
  have hw : IntKind.i64.wrap g = g := IntWalk.i64_in _ (by omega)
  have hn : IntKind.i64.wrap (-g) = -g := IntWalk.i64_in _ (by omega)
  clear hall hput ha hc hx
  go_enter Tryd.func36, Tryd.ntmps36
  go_wp2_with fail
  have X : Box (((w.alloc (Obj.cells #[Value.int IntKind.i64 n, Value.int IntKind.u64 (U a.v), Value.int IntKind.u64 (U a.x)] 24)).alloc (Obj.cells #[Value.int IntKind.i64 q, Value.int IntKind.u64 (U c.v), Value.int IntKind.u64 (U c.x)] 24)).alloc (Obj.cells #[Value.int IntKind.i64 0, Value.int IntKind.u64 0, Value.int IntKind.u64 0] 24)) (w.heap.size) n (U a.v) (U a.x) ∧ Box (((w.alloc (Obj.cells #[Value.int IntKind.i64 n, Value.int IntKind.u64 (U a.v), Value.int IntKind.u64 (U a.x)] 24)).alloc (Obj.cells #[Value.int IntKind.i64 q, Value.int IntKind.u64 (U c.v), Value.int IntKind.u64 (U c.x)] 24)).alloc (Obj.cells #[Value.int IntKind.i64 0, Value.int IntKind.u64 0, Value.int IntKind.u64 0] 24)) (w.heap.size + 1) q (U c.v) (U c.x) ∧ Box (((w.alloc (Obj.cells #[Value.int IntKind.i64 n, Value.int IntKind.u64 (U a.v), Value.int IntKind.u64 (U a.x)] 24)).alloc (Obj.cells #[Value.int IntKind.i64 q, Value.int IntKind.u64 (U c.v), Value.int IntKind.u64 (U c.x)] 24)).alloc (Obj.cells #[Value.int IntKind.i64 0, Value.int IntKind.u64 0, Value.int IntKind.u64 0] 24)) (w.heap.size + 1 + 1) 0 0 0 ∧ Below w.heap.size w (((w.alloc (Obj.cells #[Value.int IntKind.i64 n, Value.int IntKind.u64 (U a.v), Value.int IntKind.u64 (U a.x)] 24)).alloc (Obj.cells #[Value.int IntKind.i64 q, Value.int IntKind.u64 (U c.v), Value.int IntKind.u64 (U c.x)] 24)).alloc (Obj.cells #[Value.int IntKind.i64 0, Value.int IntKind.u64 0, Value.int IntKind.u64 0] 24)) := ⟨⟨by go_simp, by go_simp, by go_simp, fun o => by go_simp⟩, ⟨by go_simp, by go_simp, by go_simp, fun o => by go_simp⟩, ⟨by go_simp, by go_simp, by go_simp, fun o => by go_simp⟩, (((Below.refl _ _).alloc (Nat.le_refl _) _).alloc (by simp) _).alloc (by simp; omega) _⟩
  generalize (((w.alloc (Obj.cells #[Value.int IntKind.i64 n, Value.int IntKind.u64 (U a.v), Value.int IntKind.u64 (U a.x)] 24)).alloc (Obj.cells #[Value.int IntKind.i64 q, Value.int IntKind.u64 (U c.v), Value.int IntKind.u64 (U c.x)] 24)).alloc (Obj.cells #[Value.int IntKind.i64 0, Value.int IntKind.u64 0, Value.int IntKind.u64 0] 24)) = wx at X ⊢
  obtain ⟨t0, t1, t2, lo⟩ := X
  obtain ⟨t00, t01, t02, t0f⟩ := id t0
  obtain ⟨t10, t11, t12, t1f⟩ := id t1
  obtain ⟨t20, t21, t22, t2f⟩ := id t2
  refine (c1.out _).mono ?_
  rintro e wy0 ⟨rfl, hb⟩
  clear t00 t01 t02 t0f t10 t11 t12 t1f t20 t21 t22 t2f
  replace t0 := t0.below hb
  replace t1 := t1.below hb
  replace t2 := t2.below hb
  replace lo := lo.trans (hb.mono lo.size)
  clear hb
  obtain ⟨t00, t01, t02, t0f⟩ := id t0
  obtain ⟨t10, t11, t12, t1f⟩ := id t1
  obtain ⟨t20, t21, t22, t2f⟩ := id t2
  go_wp2_with fail
  refine (c2.out _).mono ?_
  rintro e wy1 ⟨rfl, hb⟩
  clear t00 t01 t02 t0f t10 t11 t12 t1f t20 t21 t22 t2f
  replace t0 := t0.below hb
  replace t1 := t1.below hb
  replace t2 := t2.below hb
  replace lo := lo.trans (hb.mono lo.size)
  clear hb
  obtain ⟨t00, t01, t02, t0f⟩ := id t0
  obtain ⟨t10, t11, t12, t1f⟩ := id t1
  obtain ⟨t20, t21, t22, t2f⟩ := id t2
  go_wp2_with fail
  refine (c3.out _).mono ?_
  rintro e wy2 ⟨rfl, hb⟩
  clear t00 t01 t02 t0f t10 t11 t12 t1f t20 t21 t22 t2f
  replace t0 := t0.below hb
  replace t1 := t1.below hb
  replace t2 := t2.below hb
  replace lo := lo.trans (hb.mono lo.size)
  clear hb
  obtain ⟨t00, t01, t02, t0f⟩ := id t0
  obtain ⟨t10, t11, t12, t1f⟩ := id t1
  obtain ⟨t20, t21, t22, t2f⟩ := id t2
  go_wp2_with fail
  have gt00 := cell_regrown t00
  have gt01 := cell_regrown t01
  have gt02 := cell_regrown t02
  have gt10 := cell_regrown t10
  have gt11 := cell_regrown t11
  have gt12 := cell_regrown t12
  have gt20 := cell_regrown t20
  have gt21 := cell_regrown t21
  have gt22 := cell_regrown t22
  refine wp_region_rel 6 (by kernel_rfl) (by kernel_rfl) ?_
  simp only [List.take_succ_cons, List.take_zero, List.drop_succ_cons, List.drop_zero]
  (refine rel_fix0 (fun K hK => ?_); go_simp; refine hK _ ?_; clear hK K)
  (refine rel_fix0 (fun K hK => ?_); go_simp; apply Exists.intro; refine ⟨fun _ _ => ?_, hK _ ?_⟩; (with_reducible exact ret_fix (HA.out _)); clear hK K)
  (refine rel_fix0 (fun K hK => ?_); go_simp; refine hK _ ?_; clear hK K)
  (refine rel_fix0 (fun K hK => ?_); go_simp; refine hK _ ?_; clear hK K)
  (refine rel_fix0 (fun K hK => ?_); go_simp; refine hK _ ?_; clear hK K)
  (refine rel_fix0 (fun K hK => ?_); go_simp; apply Exists.intro; refine ⟨fun _ _ => ?_, hK _ ?_⟩; (with_reducible exact ret_fix (HP.out _)); clear hK K)
  refine rel_nil ?_
  intro d os
  simp only [relAll]
  clear gt00 gt01 gt02 gt10 gt11 gt12 gt20 gt21 gt22
  clear t00 t01 t02 t0f t10 t11 t12 t1f t20 t21 t22 t2f
  replace t2 := t2.below (below_regrown wy2 d os)
  replace lo := lo.trans ((below_regrown wy2 d os).mono lo.size)
  generalize grow (redrawn wy2 d) os = wz at t2 lo ⊢
  obtain ⟨t20, t21, t22, t2f⟩ := id t2
  go_wp2_with fail
  obtain ⟨s0, s1, s2, sf⟩ := t2.set r.W (U r.v) (U r.x)
  exact bodyPost_ret (v := .agg #[.int .i64 r.W, .int .u64 (U r.v), .int .u64 (U r.x)]) (by simp [results, Tryd.results36, go_sem, s0, s1, s2]) rfl ⟨rfl, (by (repeat (first | (with_reducible exact lo) | (with_reducible exact Nat.le_refl _) | (with_reducible refine Below.setCell ?_ ?_ _) | (with_reducible refine Below.alloc ?_ ?_ _) | (with_reducible refine below_drewN ?_ _) | (with_reducible refine Below.drew ?_))) <;> (first | omega | (simp <;> omega)))⟩
set_option maxRecDepth 100000 in
set_option maxHeartbeats 2000000 in
theorem part_gs (n q : Nat) (a c : Vx) (m g : Int) (t r : Rb) (w : World) (ha : a.ok n) (hc : c.ok q) (hx : (c.x == 0#64) = true) (h0 : -64 ≤ g) (h64 : g ≤ 9223372036854775807) (hg : max (S (ext q c.v)) (-64) = g) (hall : ∀ w, Calls Tryd.prog 18 #[.int .i64 m, .int .u8 120] w fun e w' => e = .returned (.agg #[.int .i64 t.W, .int .u64 (U t.v), .int .u64 (U t.x)]) ∧ Below w.heap.size w w') (hput : ∀ w, Calls Tryd.prog 37 #[.agg #[.int .i64 t.W, .int .u64 (U t.v), .int .u64 (U t.x)], .int .i64 (-g), .agg #[.int .i64 n, .int .u64 (U a.v), .int .u64 (U a.x)]] w fun e w' => e = .returned (.agg #[.int .i64 r.W, .int .u64 (U r.v), .int .u64 (U r.x)]) ∧ Below w.heap.size w w') : Calls Tryd.prog 36 #[.agg #[.int .i64 n, .int .u64 (U a.v), .int .u64 (U a.x)], .agg #[.int .i64 q, .int .u64 (U c.v), .int .u64 (U c.x)], .bool true, .int .i64 m] w fun e w' => e = .returned (.agg #[.int .i64 r.W, .int .u64 (U r.v), .int .u64 (U r.x)]) ∧ Below w.heap.size w w' := by
  have c1 := Lib.hid fun w => valid_ok n a.v a.x w ha
  have c2 := Lib.hid fun w => valid_ok q c.v c.x w hc
  have c3 := Lib.hid fun w => known_yes q c w hc hx
  have HA := Lib.hid hall
  have HP := Lib.hid hput
  have hn : IntKind.i64.wrap (-g) = -g := IntWalk.i64_in _ (by omega)
  have c4 := Lib.hid fun w => extend_q' q c.v w hc.lo hc.hi
  have q1 := hc.lo
  have q2 := hc.hi
  generalize S (ext q c.v) = e0 at hg c4
  have h64' := Lib.hid h64
  clear h64
  clear hall hput ha hc hx
  go_enter Tryd.func36, Tryd.ntmps36
  go_wp2_with fail
  have X : Box (((w.alloc (Obj.cells #[Value.int IntKind.i64 n, Value.int IntKind.u64 (U a.v), Value.int IntKind.u64 (U a.x)] 24)).alloc (Obj.cells #[Value.int IntKind.i64 q, Value.int IntKind.u64 (U c.v), Value.int IntKind.u64 (U c.x)] 24)).alloc (Obj.cells #[Value.int IntKind.i64 0, Value.int IntKind.u64 0, Value.int IntKind.u64 0] 24)) (w.heap.size) n (U a.v) (U a.x) ∧ Box (((w.alloc (Obj.cells #[Value.int IntKind.i64 n, Value.int IntKind.u64 (U a.v), Value.int IntKind.u64 (U a.x)] 24)).alloc (Obj.cells #[Value.int IntKind.i64 q, Value.int IntKind.u64 (U c.v), Value.int IntKind.u64 (U c.x)] 24)).alloc (Obj.cells #[Value.int IntKind.i64 0, Value.int IntKind.u64 0, Value.int IntKind.u64 0] 24)) (w.heap.size + 1) q (U c.v) (U c.x) ∧ Box (((w.alloc (Obj.cells #[Value.int IntKind.i64 n, Value.int IntKind.u64 (U a.v), Value.int IntKind.u64 (U a.x)] 24)).alloc (Obj.cells #[Value.int IntKind.i64 q, Value.int IntKind.u64 (U c.v), Value.int IntKind.u64 (U c.x)] 24)).alloc (Obj.cells #[Value.int IntKind.i64 0, Value.int IntKind.u64 0, Value.int IntKind.u64 0] 24)) (w.heap.size + 1 + 1) 0 0 0 ∧ Below w.heap.size w (((w.alloc (Obj.cells #[Value.int IntKind.i64 n, Value.int IntKind.u64 (U a.v), Value.int IntKind.u64 (U a.x)] 24)).alloc (Obj.cells #[Value.int IntKind.i64 q, Value.int IntKind.u64 (U c.v), Value.int IntKind.u64 (U c.x)] 24)).alloc (Obj.cells #[Value.int IntKind.i64 0, Value.int IntKind.u64 0, Value.int IntKind.u64 0] 24)) := ⟨⟨by go_simp, by go_simp, by go_simp, fun o => by go_simp⟩, ⟨by go_simp, by go_simp, by go_simp, fun o => by go_simp⟩, ⟨by go_simp, by go_simp, by go_simp, fun o => by go_simp⟩, (((Below.refl _ _).alloc (Nat.le_refl _) _).alloc (by simp) _).alloc (by simp; omega) _⟩
  generalize (((w.alloc (Obj.cells #[Value.int IntKind.i64 n, Value.int IntKind.u64 (U a.v), Value.int IntKind.u64 (U a.x)] 24)).alloc (Obj.cells #[Value.int IntKind.i64 q, Value.int IntKind.u64 (U c.v), Value.int IntKind.u64 (U c.x)] 24)).alloc (Obj.cells #[Value.int IntKind.i64 0, Value.int IntKind.u64 0, Value.int IntKind.u64 0] 24)) = wx at X ⊢
  obtain ⟨t0, t1, t2, lo⟩ := X
  obtain ⟨t00, t01, t02, t0f⟩ := id t0
  obtain ⟨t10, t11, t12, t1f⟩ := id t1
  obtain ⟨t20, t21, t22, t2f⟩ := id t2
  refine (c1.out _).mono ?_
  rintro e wy0 ⟨rfl, hb⟩
  clear t00 t01 t02 t0f t10 t11 t12 t1f t20 t21 t22 t2f
  replace t0 := t0.below hb
  replace t1 := t1.below hb
  replace t2 := t2.below hb
  replace lo := lo.trans (hb.mono lo.size)
  clear hb
  obtain ⟨t00, t01, t02, t0f⟩ := id t0
  obtain ⟨t10, t11, t12, t1f⟩ := id t1
  obtain ⟨t20, t21, t22, t2f⟩ := id t2
  go_wp2_with fail
  refine (c2.out _).mono ?_
  rintro e wy1 ⟨rfl, hb⟩
  clear t00 t01 t02 t0f t10 t11 t12 t1f t20 t21 t22 t2f
  replace t0 := t0.below hb
  replace t1 := t1.below hb
  replace t2 := t2.below hb
  replace lo := lo.trans (hb.mono lo.size)
  clear hb
  obtain ⟨t00, t01, t02, t0f⟩ := id t0
  obtain ⟨t10, t11, t12, t1f⟩ := id t1
  obtain ⟨t20, t21, t22, t2f⟩ := id t2
  go_wp2_with fail
  refine (c3.out _).mono ?_
  rintro e wy2 ⟨rfl, hb⟩
  clear t00 t01 t02 t0f t10 t11 t12 t1f t20 t21 t22 t2f
  replace t0 := t0.below hb
  replace t1 := t1.below hb
  replace t2 := t2.below hb
  replace lo := lo.trans (hb.mono lo.size)
  clear hb
  obtain ⟨t00, t01, t02, t0f⟩ := id t0
  obtain ⟨t10, t11, t12, t1f⟩ := id t1
  obtain ⟨t20, t21, t22, t2f⟩ := id t2
  go_wp2_with fail
  refine (c4.out _).mono ?_
  rintro e w' ⟨rfl, rfl⟩
  go_wp2_with fail
  have gt00 := cell_regrown t00
  have gt01 := cell_regrown t01
  have gt02 := cell_regrown t02
  have gt10 := cell_regrown t10
  have gt11 := cell_regrown t11
  have gt12 := cell_regrown t12
  have gt20 := cell_regrown t20
  have gt21 := cell_regrown t21
  have gt22 := cell_regrown t22
  refine wp_region_rel 6 (by kernel_rfl) (by kernel_rfl) ?_
  simp only [List.take_succ_cons, List.take_zero, List.drop_succ_cons, List.drop_zero]
  (refine rel_fix0 (fun K hK => ?_); go_simp; refine hK _ ?_; clear hK K)
  (refine rel_fix0 (fun K hK => ?_); go_simp; apply Exists.intro; refine ⟨fun _ _ => ?_, hK _ ?_⟩; (with_reducible exact ret_fix (HA.out _)); clear hK K)
  (refine rel_fix0 (fun K hK => ?_); go_simp; refine hK _ ?_; clear hK K)
  (refine rel_fix0 (fun K hK => ?_); go_simp; refine hK _ ?_; clear hK K)
  (refine rel_fix0 (fun K hK => ?_); go_simp; refine hK _ ?_; clear hK K)
  (refine rel_fix0 (fun K hK => ?_); go_simp; apply Exists.intro; refine ⟨fun _ _ => ?_, hK _ ?_⟩; (with_reducible exact ret_fix (HP.out _)); clear hK K)
  refine rel_nil ?_
  intro d os
  simp only [relAll]
  clear gt00 gt01 gt02 gt10 gt11 gt12 gt20 gt21 gt22
  clear t00 t01 t02 t0f t10 t11 t12 t1f t20 t21 t22 t2f
  replace t2 := t2.below (below_regrown w' d os)
  replace lo := lo.trans ((below_regrown w' d os).mono lo.size)
  generalize grow (redrawn w' d) os = wz at t2 lo ⊢
  obtain ⟨t20, t21, t22, t2f⟩ := id t2
  go_wp2_with fail
  obtain ⟨s0, s1, s2, sf⟩ := t2.set r.W (U r.v) (U r.x)
  exact bodyPost_ret (v := .agg #[.int .i64 r.W, .int .u64 (U r.v), .int .u64 (U r.x)]) (by simp [results, Tryd.results36, go_sem, s0, s1, s2]) rfl ⟨rfl, (by (repeat (first | (with_reducible exact lo) | (with_reducible exact Nat.le_refl _) | (with_reducible refine Below.setCell ?_ ?_ _) | (with_reducible refine Below.alloc ?_ ?_ _) | (with_reducible refine below_drewN ?_ _) | (with_reducible refine Below.drew ?_))) <;> (first | omega | (simp <;> omega)))⟩
set_option maxRecDepth 100000 in
set_option maxHeartbeats 2000000 in
theorem part_un (n q : Nat) (a c : Vx) (s : Bool) (m : Int) (t : Rb) (w : World) (ha : a.ok n) (hc : c.ok q) (hx : (c.x == 0#64) = false) (hall : ∀ w, Calls Tryd.prog 18 #[.int .i64 m, .int .u8 120] w fun e w' => e = .returned (.agg #[.int .i64 t.W, .int .u64 (U t.v), .int .u64 (U t.x)]) ∧ Below w.heap.size w w') : Calls Tryd.prog 36 #[.agg #[.int .i64 n, .int .u64 (U a.v), .int .u64 (U a.x)], .agg #[.int .i64 q, .int .u64 (U c.v), .int .u64 (U c.x)], .bool s, .int .i64 m] w fun e w' => e = .returned (.agg #[.int .i64 t.W, .int .u64 (U t.v), .int .u64 (U t.x)]) ∧ Below w.heap.size w w' := by
  have c1 := Lib.hid fun w => valid_ok n a.v a.x w ha
  have c2 := Lib.hid fun w => valid_ok q c.v c.x w hc
  have c3 := Lib.hid fun w => known_no q c w hc hx
  have HA := Lib.hid hall
  clear hall ha hc hx
  go_enter Tryd.func36, Tryd.ntmps36
  go_wp2_with fail
  have X : Box (((w.alloc (Obj.cells #[Value.int IntKind.i64 n, Value.int IntKind.u64 (U a.v), Value.int IntKind.u64 (U a.x)] 24)).alloc (Obj.cells #[Value.int IntKind.i64 q, Value.int IntKind.u64 (U c.v), Value.int IntKind.u64 (U c.x)] 24)).alloc (Obj.cells #[Value.int IntKind.i64 0, Value.int IntKind.u64 0, Value.int IntKind.u64 0] 24)) (w.heap.size) n (U a.v) (U a.x) ∧ Box (((w.alloc (Obj.cells #[Value.int IntKind.i64 n, Value.int IntKind.u64 (U a.v), Value.int IntKind.u64 (U a.x)] 24)).alloc (Obj.cells #[Value.int IntKind.i64 q, Value.int IntKind.u64 (U c.v), Value.int IntKind.u64 (U c.x)] 24)).alloc (Obj.cells #[Value.int IntKind.i64 0, Value.int IntKind.u64 0, Value.int IntKind.u64 0] 24)) (w.heap.size + 1) q (U c.v) (U c.x) ∧ Box (((w.alloc (Obj.cells #[Value.int IntKind.i64 n, Value.int IntKind.u64 (U a.v), Value.int IntKind.u64 (U a.x)] 24)).alloc (Obj.cells #[Value.int IntKind.i64 q, Value.int IntKind.u64 (U c.v), Value.int IntKind.u64 (U c.x)] 24)).alloc (Obj.cells #[Value.int IntKind.i64 0, Value.int IntKind.u64 0, Value.int IntKind.u64 0] 24)) (w.heap.size + 1 + 1) 0 0 0 ∧ Below w.heap.size w (((w.alloc (Obj.cells #[Value.int IntKind.i64 n, Value.int IntKind.u64 (U a.v), Value.int IntKind.u64 (U a.x)] 24)).alloc (Obj.cells #[Value.int IntKind.i64 q, Value.int IntKind.u64 (U c.v), Value.int IntKind.u64 (U c.x)] 24)).alloc (Obj.cells #[Value.int IntKind.i64 0, Value.int IntKind.u64 0, Value.int IntKind.u64 0] 24)) := ⟨⟨by go_simp, by go_simp, by go_simp, fun o => by go_simp⟩, ⟨by go_simp, by go_simp, by go_simp, fun o => by go_simp⟩, ⟨by go_simp, by go_simp, by go_simp, fun o => by go_simp⟩, (((Below.refl _ _).alloc (Nat.le_refl _) _).alloc (by simp) _).alloc (by simp; omega) _⟩
  generalize (((w.alloc (Obj.cells #[Value.int IntKind.i64 n, Value.int IntKind.u64 (U a.v), Value.int IntKind.u64 (U a.x)] 24)).alloc (Obj.cells #[Value.int IntKind.i64 q, Value.int IntKind.u64 (U c.v), Value.int IntKind.u64 (U c.x)] 24)).alloc (Obj.cells #[Value.int IntKind.i64 0, Value.int IntKind.u64 0, Value.int IntKind.u64 0] 24)) = wx at X ⊢
  obtain ⟨t0, t1, t2, lo⟩ := X
  obtain ⟨t00, t01, t02, t0f⟩ := id t0
  obtain ⟨t10, t11, t12, t1f⟩ := id t1
  obtain ⟨t20, t21, t22, t2f⟩ := id t2
  refine (c1.out _).mono ?_
  rintro e wy0 ⟨rfl, hb⟩
  clear t00 t01 t02 t0f t10 t11 t12 t1f t20 t21 t22 t2f
  replace t0 := t0.below hb
  replace t1 := t1.below hb
  replace t2 := t2.below hb
  replace lo := lo.trans (hb.mono lo.size)
  clear hb
  obtain ⟨t00, t01, t02, t0f⟩ := id t0
  obtain ⟨t10, t11, t12, t1f⟩ := id t1
  obtain ⟨t20, t21, t22, t2f⟩ := id t2
  go_wp2_with fail
  refine (c2.out _).mono ?_
  rintro e wy1 ⟨rfl, hb⟩
  clear t00 t01 t02 t0f t10 t11 t12 t1f t20 t21 t22 t2f
  replace t0 := t0.below hb
  replace t1 := t1.below hb
  replace t2 := t2.below hb
  replace lo := lo.trans (hb.mono lo.size)
  clear hb
  obtain ⟨t00, t01, t02, t0f⟩ := id t0
  obtain ⟨t10, t11, t12, t1f⟩ := id t1
  obtain ⟨t20, t21, t22, t2f⟩ := id t2
  go_wp2_with fail
  refine (c3.out _).mono ?_
  rintro e wy2 ⟨rfl, hb⟩
  clear t00 t01 t02 t0f t10 t11 t12 t1f t20 t21 t22 t2f
  replace t0 := t0.below hb
  replace t1 := t1.below hb
  replace t2 := t2.below hb
  replace lo := lo.trans (hb.mono lo.size)
  clear hb
  obtain ⟨t00, t01, t02, t0f⟩ := id t0
  obtain ⟨t10, t11, t12, t1f⟩ := id t1
  obtain ⟨t20, t21, t22, t2f⟩ := id t2
  go_wp2_with fail
  refine (HA.out _).mono ?_
  rintro e wy3 ⟨rfl, hb⟩
  clear t00 t01 t02 t0f t10 t11 t12 t1f t20 t21 t22 t2f
  replace t0 := t0.below hb
  replace t1 := t1.below hb
  replace t2 := t2.below hb
  replace lo := lo.trans (hb.mono lo.size)
  clear hb
  obtain ⟨t00, t01, t02, t0f⟩ := id t0
  obtain ⟨t10, t11, t12, t1f⟩ := id t1
  obtain ⟨t20, t21, t22, t2f⟩ := id t2
  go_wp2_with fail
  obtain ⟨s0, s1, s2, sf⟩ := t2.set t.W (U t.v) (U t.x)
  exact bodyPost_ret (v := .agg #[.int .i64 t.W, .int .u64 (U t.v), .int .u64 (U t.x)]) (by simp [results, Tryd.results36, go_sem, s0, s1, s2]) rfl ⟨rfl, (by (repeat (first | (with_reducible exact lo) | (with_reducible exact Nat.le_refl _) | (with_reducible refine Below.setCell ?_ ?_ _) | (with_reducible refine Below.alloc ?_ ?_ _) | (with_reducible refine below_drewN ?_ _) | (with_reducible refine Below.drew ?_))) <;> (first | omega | (simp <;> omega)))⟩
end Go.Proofs.YtdpmojkpfnkcdaaDoor
namespace Go.Proofs.YtdpmojkpfnkcdaaDoor
open Go Go.RowKit Go.Sort
set_option linter.unusedVariables false
theorem st_same {a b : Vx} {i j : Nat} (h1 : a.v.getLsbD i = b.v.getLsbD j) (h2 : a.x.getLsbD i = b.x.getLsbD j) : st a i = st b j := by unfold st; rw [h1, h2]
theorem vl_drop (a : Vx) (n at_ w : Nat) (h : at_ + w ≤ n) (hw : w ≤ 64) : ((vl a n).drop at_).take w = vl (vslice at_ w a) w := by
  apply List.ext_getElem
  · rw [List.length_take, List.length_drop, vl_len, vl_len]; omega
  · intro i h1 h2
    have hi : i < w := by rw [vl_len] at h2; exact h2
    rw [List.getElem_take, List.getElem_drop]
    have e1 := vl_get a n (at_ + i) (by omega)
    have e2 := vl_get (vslice at_ w a) w i hi
    rw [getD_at (by rw [vl_len]; omega)] at e1
    rw [getD_at (by rw [vl_len]; exact hi)] at e2
    rw [e1, e2]
    have h64 : i < 64 := by omega
    apply st_same <;> simp only [vslice, BitVec.getLsbD_or, BitVec.getLsbD_and, BitVec.getLsbD_not, BitVec.getLsbD_shiftLeft, BitVec.getLsbD_ushiftRight, decide_true, decide_false, Bool.true_and, Bool.and_true, Bool.not_true, Bool.not_false, Bool.and_false, Bool.false_and, Bool.or_false, Bool.false_or, Bool.and_self, Bool.or_true, Bool.true_or, msk_bit hw, hi, h64]
theorem vput_bit {n m k : Nat} {a p : Vx} (hn : n ≤ 64) (hm : m ≤ 64) {i : Nat} (hi : i < n) : st (vput n m a k p) i = if k ≤ i ∧ i - k < m then st p (i - k) else st a i := by
  have h64 : i < 64 := by omega
  by_cases c : k ≤ i ∧ i - k < m
  · rw [if_pos c]
    obtain ⟨c1, c2⟩ := c
    have c3 : ¬ i < k := by omega
    apply st_same <;> simp only [vput, plc, BitVec.getLsbD_or, BitVec.getLsbD_and, BitVec.getLsbD_not, BitVec.getLsbD_shiftLeft, BitVec.getLsbD_ushiftRight, decide_true, decide_false, Bool.true_and, Bool.and_true, Bool.not_true, Bool.not_false, Bool.and_false, Bool.false_and, Bool.or_false, Bool.false_or, Bool.and_self, Bool.or_true, Bool.true_or, msk_bit hn, msk_bit hm, hi, h64, c2, c3]
  · rw [if_neg c]
    by_cases c3 : i < k
    · apply st_same <;> simp only [vput, plc, BitVec.getLsbD_or, BitVec.getLsbD_and, BitVec.getLsbD_not, BitVec.getLsbD_shiftLeft, BitVec.getLsbD_ushiftRight, decide_true, decide_false, Bool.true_and, Bool.and_true, Bool.not_true, Bool.not_false, Bool.and_false, Bool.false_and, Bool.or_false, Bool.false_or, Bool.and_self, Bool.or_true, Bool.true_or, msk_bit hn, msk_bit hm, hi, h64, c3]
    · have c2 : ¬ i - k < m := fun e => c ⟨by omega, e⟩
      apply st_same <;> simp only [vput, plc, BitVec.getLsbD_or, BitVec.getLsbD_and, BitVec.getLsbD_not, BitVec.getLsbD_shiftLeft, BitVec.getLsbD_ushiftRight, decide_true, decide_false, Bool.true_and, Bool.and_true, Bool.not_true, Bool.not_false, Bool.and_false, Bool.false_and, Bool.or_false, Bool.false_or, Bool.and_self, Bool.or_true, Bool.true_or, msk_bit hn, msk_bit hm, hi, h64, c2, c3]
theorem vputd_bit {n m k : Nat} {a p : Vx} (hn : n ≤ 64) (hm : m ≤ 64) {i : Nat} (hi : i < n) : st (vputd n m a k p) i = if k + i < m then st p (k + i) else st a i := by
  have h64 : i < 64 := by omega
  by_cases c : k + i < m
  · rw [if_pos c]
    apply st_same <;> simp only [vputd, plcd, BitVec.getLsbD_or, BitVec.getLsbD_and, BitVec.getLsbD_not, BitVec.getLsbD_shiftLeft, BitVec.getLsbD_ushiftRight, decide_true, decide_false, Bool.true_and, Bool.and_true, Bool.not_true, Bool.not_false, Bool.and_false, Bool.false_and, Bool.or_false, Bool.false_or, Bool.and_self, Bool.or_true, Bool.true_or, msk_bit hn, msk_bit hm, hi, h64, c]
  · rw [if_neg c]
    apply st_same <;> simp only [vputd, plcd, BitVec.getLsbD_or, BitVec.getLsbD_and, BitVec.getLsbD_not, BitVec.getLsbD_shiftLeft, BitVec.getLsbD_ushiftRight, decide_true, decide_false, Bool.true_and, Bool.and_true, Bool.not_true, Bool.not_false, Bool.and_false, Bool.false_and, Bool.or_false, Bool.false_or, Bool.and_self, Bool.or_true, Bool.true_or, msk_bit hn, msk_bit hm, hi, h64, c]
theorem vpi_bit {n m : Nat} {a p : Vx} {at_ : Int} (hn : n ≤ 64) (hm : m ≤ 64) {i : Nat} (hi : i < n) : st (vpi n m a at_ p) i = if 0 ≤ (i : Int) - at_ ∧ (i : Int) - at_ < m then st p ((i : Int) - at_).toNat else st a i := by
  unfold vpi
  by_cases h0 : 0 ≤ at_
  · rw [if_pos h0, vput_bit hn hm hi]
    by_cases c : 0 ≤ (i : Int) - at_ ∧ (i : Int) - at_ < m
    · rw [if_pos c, if_pos (by omega)]; congr 1; omega
    · rw [if_neg c, if_neg (by omega)]
  · rw [if_neg h0, vputd_bit hn hm hi]
    by_cases c : 0 ≤ (i : Int) - at_ ∧ (i : Int) - at_ < m
    · rw [if_pos c, if_pos (by omega)]; congr 1; omega
    · rw [if_neg c, if_neg (by omega)]
theorem map_vl {n : Nat} {b : Vx} {f : Nat → UInt8} (h : ∀ i, i < n → f i = st b i) : (List.range n).map f = vl b n := by
  unfold vl
  apply List.map_congr_left
  intro i hi
  exact h i (List.mem_range.1 hi)
theorem placed_vl {n m : Nat} {a p : Vx} (ha : a.ok n) (hp : p.ok m) (at_ at' : Int) (h : at' = max (-100) (min at_ 100)) : (List.range n).map (plF (vl a n) at' (vl p m) m) = vl (vpi n m a at_ p) n := by
  have h1 := ha.hi
  have h2 := hp.hi
  refine map_vl fun i hi => ?_
  rw [vpi_bit h1 h2 hi]
  unfold plF
  by_cases c : 0 ≤ (i : Int) - at_ ∧ (i : Int) - at_ < m
  · have e : at' = at_ := by omega
    rw [e, if_pos c, if_pos c, vl_get p m _ (by omega)]
  · rw [if_neg c, if_neg (by omega), vl_get a n i hi]
theorem fl3_st {n : Nat} (hn : n ≤ 64) {i : Nat} (hi : i < n) : st (fl n 3) i = 120 := by
  have e : (fl n 3).v.getLsbD i = true ∧ (fl n 3).x.getLsbD i = true := by
    unfold fl; simp [msk_bit hn, hi]
  unfold st; rw [e.1, e.2]; rfl
theorem window_vl {n w : Nat} {a : Vx} (ha : a.ok n) (hw : w ≤ 64) (off g : Int) (h : off = g ∨ (64 ≤ off ∧ 64 ≤ g) ∨ (off ≤ -64 ∧ g ≤ -64)) : (List.range w).map (winF (vl a n) off) = vl (vpi w n (fl w 3) (-g) a) w := by
  have h1 := ha.hi
  refine map_vl fun i hi => ?_
  rw [vpi_bit hw h1 hi]
  unfold winF
  rw [vl_len]
  by_cases c : 0 ≤ off + (i : Int) ∧ off + (i : Int) < n
  · have e : off = g := by omega
    subst e
    rw [if_pos c, if_pos (by omega), vl_get a n _ (by omega)]
    congr 1; omega
  · rw [if_neg c, if_neg (by omega), fl3_st hw hi]
theorem ext_sign {n : Nat} (h1 : 1 ≤ n) (h2 : n ≤ 64) (v : BitVec 64) {i : Nat} (hi : i < 64) : (ext n v).getLsbD i = v.getLsbD (min i (n - 1)) := by
  unfold ext
  rw [BitVec.getLsbD_sshiftRight]
  have e1 : decide (64 ≤ i) = false := by simp; omega
  rw [e1]
  by_cases h : i < n
  · rw [if_pos (by omega), BitVec.getLsbD_shiftLeft, Nat.min_eq_left (by omega)]
    have e2 : decide (64 - n + i < 64) = true := by simp; omega
    have e3 : decide (64 - n + i < 64 - n) = false := by simp
    rw [e2, e3, show 64 - n + i - (64 - n) = i by omega]; simp
  · rw [if_neg (by omega), BitVec.msb_eq_getLsbD_last, BitVec.getLsbD_shiftLeft, Nat.min_eq_right (by omega)]
    have e2 : decide (64 - 1 < 64) = true := by decide
    have e3 : decide (64 - 1 < 64 - n) = false := by simp; omega
    rw [e2, e3, show 64 - 1 - (64 - n) = n - 1 by omega]; simp
theorem stretched_vl {n w : Nat} {a : Vx} (ha : a.ok n) (hw : w ≤ 64) (s : Bool) : (List.range w).map (strF (vl a n) s) = vl (if s then vext n w a else vcut w a) w := by
  have h1 := ha.lo
  have h2 := ha.hi
  refine map_vl fun i hi => ?_
  have h64 : i < 64 := by omega
  unfold strF
  rw [vl_len]
  by_cases c : i < n
  · rw [if_pos c, vl_get a n i c]
    cases s
    · show st a i = st (vcut w a) i
      apply st_same <;> simp only [vcut, BitVec.getLsbD_or, BitVec.getLsbD_and, BitVec.getLsbD_not, BitVec.getLsbD_shiftLeft, BitVec.getLsbD_ushiftRight, decide_true, decide_false, Bool.true_and, Bool.and_true, Bool.not_true, Bool.not_false, Bool.and_false, Bool.false_and, Bool.or_false, Bool.false_or, Bool.and_self, Bool.or_true, Bool.true_or, msk_bit hw, hi]
    · have e : min i (n - 1) = i := by omega
      show st a i = st (vext n w a) i
      apply st_same <;> simp only [vext, BitVec.getLsbD_or, BitVec.getLsbD_and, BitVec.getLsbD_not, BitVec.getLsbD_shiftLeft, BitVec.getLsbD_ushiftRight, decide_true, decide_false, Bool.true_and, Bool.and_true, Bool.not_true, Bool.not_false, Bool.and_false, Bool.false_and, Bool.or_false, Bool.false_or, Bool.and_self, Bool.or_true, Bool.true_or, msk_bit hw, hi, ext_sign h1 h2 _ h64, e]
  · rw [if_neg c]
    cases s
    · have z1 := ha.subv i (by omega)
      have z2 := ha.subx i (by omega)
      have e : st (vcut w a) i = 48 := by
        have e1 : (vcut w a).v.getLsbD i = false := by simp [vcut, z1]
        have e2 : (vcut w a).x.getLsbD i = false := by simp [vcut, z2]
        unfold st; rw [e1, e2]; rfl
      exact e.symm
    · rw [if_pos rfl, vl_get a n _ (by omega)]
      have e : min i (n - 1) = n - 1 := by omega
      show st a (n - 1) = st (vext n w a) i
      apply st_same <;> simp only [vext, BitVec.getLsbD_or, BitVec.getLsbD_and, BitVec.getLsbD_not, BitVec.getLsbD_shiftLeft, BitVec.getLsbD_ushiftRight, decide_true, decide_false, Bool.true_and, Bool.and_true, Bool.not_true, Bool.not_false, Bool.and_false, Bool.false_and, Bool.or_false, Bool.false_or, Bool.and_self, Bool.or_true, Bool.true_or, msk_bit hw, hi, ext_sign h1 h2 _ h64, e]
/-- the number of the first k states -/
def num (l : List UInt8) : Nat → Nat
  | 0 => 0
  | k + 1 => num l k + if l.getD k 0 = 49 then 2 ^ k else 0
def hiD (l : List UInt8) : Nat → Nat
  | 0 => 0
  | j + 1 => 2 * hiD l j + if l.getD (l.length - 1 - j) 0 = 49 then 1 else 0
theorem cntD_hi (l : List UInt8) (lim : Nat) : ∀ j, cntD l lim j = min (hiD l j) lim
  | 0 => by show 0 = min 0 lim; omega
  | j + 1 => by
    show min (2 * cntD l lim j + _) lim = min (2 * hiD l j + _) lim
    rw [cntD_hi l lim j]
    split <;> omega
theorem hi_num (l : List UInt8) : ∀ j, j ≤ l.length → hiD l j * 2 ^ (l.length - j) + num l (l.length - j) = num l l.length
  | 0, _ => by show 0 * _ + num l (l.length - 0) = _; rw [Nat.zero_mul, Nat.zero_add]; rfl
  | j + 1, h => by
    have ih := hi_num l j (by omega)
    have e : l.length - j = (l.length - (j + 1)) + 1 := by omega
    rw [e] at ih
    have e2 : l.length - 1 - j = l.length - (j + 1) := by omega
    show (2 * hiD l j + if l.getD (l.length - 1 - j) 0 = 49 then 1 else 0) * _ + _ = _
    rw [e2, ← ih]
    show _ = hiD l j * 2 ^ (l.length - (j + 1) + 1) + (num l (l.length - (j + 1)) + if l.getD (l.length - (j + 1)) 0 = 49 then 2 ^ (l.length - (j + 1)) else 0)
    generalize l.length - (j + 1) = q
    rw [Nat.pow_succ]
    split
    · rw [Nat.add_mul, Nat.one_mul, Nat.mul_comm 2, Nat.mul_assoc, Nat.mul_comm 2]; omega
    · rw [Nat.add_zero, Nat.add_zero, Nat.mul_comm 2, Nat.mul_assoc, Nat.mul_comm 2]
theorem cnt_num (l : List UInt8) (lim : Nat) : cntD l lim l.length = min (num l l.length) lim := by
  rw [cntD_hi]
  have := hi_num l l.length (Nat.le_refl _)
  rw [Nat.sub_self, Nat.pow_zero, Nat.mul_one] at this
  have h0 : num l 0 = 0 := rfl
  rw [h0] at this
  rw [← this]; rfl
theorem num_lt (l : List UInt8) : ∀ k, num l k < 2 ^ k
  | 0 => by show 0 < 1; omega
  | k + 1 => by
    have := num_lt l k
    show num l k + _ < 2 ^ (k + 1)
    rw [Nat.pow_succ]
    split <;> omega
theorem num_vl {q : Nat} {c : Vx} (hc : c.ok q) (hx : c.x = 0#64) : num (vl c q) q = c.v.toNat := by
  have key : ∀ k, k ≤ q → num (vl c q) k = c.v.toNat % 2 ^ k := by
    intro k
    induction k with
    | zero => intro _; show 0 = _; rw [Nat.pow_zero, Nat.mod_one]
    | succ k ih =>
      intro hk
      show num (vl c q) k + _ = _
      rw [ih (by omega), vl_get c q k (by omega), Nat.mod_pow_succ]
      have e : (st c k = 49) ↔ c.v.getLsbD k = true := by
        unfold st; rw [hx]; cases c.v.getLsbD k <;> simp
      have e2 : c.v.toNat / 2 ^ k % 2 = if c.v.getLsbD k = true then 1 else 0 := by
        rw [← BitVec.testBit_toNat, Nat.testBit_eq_decide_div_mod_eq]
        have := Nat.mod_two_eq_zero_or_one (c.v.toNat / 2 ^ k)
        rcases this with h | h <;> simp [h]
      rw [e2]
      by_cases b : c.v.getLsbD k = true
      · rw [if_pos (e.2 b), if_pos b, Nat.mul_one]
      · rw [if_neg (fun h => b (e.1 h)), if_neg b, Nat.mul_zero]
  rw [key q (Nat.le_refl _)]
  have h64 := hc.hi
  have hs := and_msk_toNat h64 c.v
  have : c.v &&& msk q = c.v := by
    apply BitVec.eq_of_getLsbD_eq
    intro i hi
    rw [BitVec.getLsbD_and, msk_bit h64]
    by_cases h : i < q
    · simp [h]
    · rw [hc.subv i (by omega)]; simp
  rw [this] at hs
  exact hs.symm
def bit1 (x : UInt8) : Nat := if x = 49 then 1 else 0
theorem add_bits {x y c : UInt8} (hx : x = 48 ∨ x = 49) (hy : y = 48 ∨ y = 49) (hc : c = 48 ∨ c = 49) : bit1 (xorB (xorB x y) c) + 2 * bit1 (orB (andB x y) (andB c (xorB x y))) = bit1 x + bit1 y + bit1 c ∧ (orB (andB x y) (andB c (xorB x y)) = 48 ∨ orB (andB x y) (andB c (xorB x y)) = 49) := by
  rcases hx with rfl | rfl <;> rcases hy with rfl | rfl <;> rcases hc with rfl | rfl <;> simp [bit1, xorB, orB, andB, notB]
theorem getD_last (L : List UInt8) (z : UInt8) : (L ++ [z]).getD L.length 0 = z := by
  rw [List.getD_eq_getElem?_getD, List.getElem?_append_right (Nat.le_refl _), Nat.sub_self]; rfl
theorem getD_first (L : List UInt8) (z : UInt8) {i : Nat} (h : i < L.length) : (L ++ [z]).getD i 0 = L.getD i 0 := by
  rw [List.getD_eq_getElem?_getD, List.getElem?_append_left h, ← List.getD_eq_getElem?_getD]
theorem sumK_succ (l m : List UInt8) (c : UInt8) (k : Nat) : sumK l m c (k + 1) = sumK l m c k ++ [xorB (xorB (l.getD k 0) (m.getD k 0)) (carK l m c k)] := rfl
theorem sumK_get (l m : List UInt8) (c : UInt8) (k : Nat) : ∀ i, i < k → (sumK l m c k).getD i 0 = xorB (xorB (l.getD i 0) (m.getD i 0)) (carK l m c i) := by
  induction k with
  | zero => intro i h; omega
  | succ k ih =>
    intro i h
    rw [sumK_succ]
    by_cases e : i = k
    · have h9 := getD_last (sumK l m c k) (xorB (xorB (l.getD k 0) (m.getD k 0)) (carK l m c k))
      rw [sumK_len] at h9
      rw [e]; exact h9
    · rw [getD_first _ _ (by rw [sumK_len]; omega)]
      exact ih i (by omega)
theorem num_same {l m : List UInt8} : ∀ k, (∀ i, i < k → l.getD i 0 = m.getD i 0) → num l k = num m k
  | 0, _ => rfl
  | k + 1, h => by
    show num l k + _ = num m k + _
    rw [num_same k (fun i hi => h i (by omega)), h k (by omega)]
theorem num_step (l : List UInt8) (k : Nat) : num l (k + 1) = num l k + bit1 (l.getD k 0) * 2 ^ k := by
  show num l k + _ = _
  unfold bit1; split <;> simp
theorem plus_num {l m : List UInt8} {c : UInt8} (hl : ∀ i, i < l.length → l.getD i 0 = 48 ∨ l.getD i 0 = 49) (hm : ∀ i, i < l.length → m.getD i 0 = 48 ∨ m.getD i 0 = 49) (hc : c = 48 ∨ c = 49) :
    ∀ k, k ≤ l.length → num (sumK l m c k) k + bit1 (carK l m c k) * 2 ^ k = num l k + num m k + bit1 c ∧ (carK l m c k = 48 ∨ carK l m c k = 49)
  | 0, _ => ⟨by show 0 + bit1 c * 2 ^ 0 = 0 + 0 + bit1 c; omega, hc⟩
  | k + 1, h => by
    obtain ⟨ih, hcar⟩ := plus_num hl hm hc k (by omega)
    obtain ⟨hb, hn⟩ := add_bits (hl k (by omega)) (hm k (by omega)) hcar
    refine ⟨?_, hn⟩
    have e1 : num (sumK l m c (k + 1)) (k + 1) = num (sumK l m c k) k + bit1 (xorB (xorB (l.getD k 0) (m.getD k 0)) (carK l m c k)) * 2 ^ k := by
      rw [num_step, sumK_get l m c (k + 1) k (by omega), num_same k (l := sumK l m c (k + 1)) (m := sumK l m c k) (fun i hi => by rw [sumK_get l m c (k + 1) i (by omega), sumK_get l m c k i hi])]
    rw [e1, num_step, num_step]
    have e2 : carK l m c (k + 1) = orB (andB (l.getD k 0) (m.getD k 0)) (andB (carK l m c k) (xorB (l.getD k 0) (m.getD k 0))) := rfl
    rw [e2]
    generalize bit1 (xorB (xorB (l.getD k 0) (m.getD k 0)) (carK l m c k)) = o at hb ⊢
    generalize bit1 (orB (andB (l.getD k 0) (m.getD k 0)) (andB (carK l m c k) (xorB (l.getD k 0) (m.getD k 0)))) = q at hb ⊢
    generalize bit1 (l.getD k 0) = x at hb ⊢
    generalize bit1 (m.getD k 0) = y at hb ⊢
    generalize bit1 (carK l m c k) = z at hb ih
    rw [Nat.pow_succ]
    generalize 2 ^ k = p at ih ⊢
    have h3 : (o + 2 * q) * p = (x + y + z) * p := by rw [hb]
    rw [Nat.add_mul, Nat.add_mul, Nat.add_mul, Nat.mul_assoc] at h3
    have h4 : q * (p * 2) = 2 * (q * p) := by rw [Nat.mul_comm p 2, ← Nat.mul_assoc, Nat.mul_comm q 2, Nat.mul_assoc]
    rw [h4]; omega
theorem num_zero (n : Nat) : ∀ k, num (List.replicate n 48) k = 0
  | 0 => rfl
  | k + 1 => by
    rw [num_step, num_zero n k]
    have : bit1 ((List.replicate n 48).getD k 0) = 0 := by
      rw [List.getD_eq_getElem?_getD, List.getElem?_replicate]
      split <;> decide
    rw [this]; omega
theorem num_not {l : List UInt8} (hl : ∀ i, i < l.length → l.getD i 0 = 48 ∨ l.getD i 0 = 49) : ∀ k, k ≤ l.length → num (l.map notB) k + num l k + 1 = 2 ^ k
  | 0, _ => rfl
  | k + 1, h => by
    have ih := num_not hl k (by omega)
    have e : (l.map notB).getD k 0 = notB (l.getD k 0) := by
      rw [getD_at (by rw [List.length_map]; omega), getD_at (by omega), List.getElem_map]
    rw [num_step, num_step, e, Nat.pow_succ]
    have hb : bit1 (notB (l.getD k 0)) + bit1 (l.getD k 0) = 1 := by rcases hl k (by omega) with h | h <;> rw [h] <;> decide
    generalize bit1 (notB (l.getD k 0)) = x at hb ⊢
    generalize bit1 (l.getD k 0) = y at hb ⊢
    generalize 2 ^ k = p at ih ⊢
    have h3 : (x + y) * p = 1 * p := by rw [hb]
    rw [Nat.add_mul] at h3
    omega
theorem not_known {l : List UInt8} (hl : ∀ i, i < l.length → l.getD i 0 = 48 ∨ l.getD i 0 = 49) : ∀ i, i < l.length → (l.map notB).getD i 0 = 48 ∨ (l.map notB).getD i 0 = 49 := by
  intro i hi
  have e : (l.map notB).getD i 0 = notB (l.getD i 0) := by
    rw [getD_at (by rw [List.length_map]; omega), getD_at hi, List.getElem_map]
  rw [e]
  rcases hl i hi with h | h <;> rw [h] <;> decide
/-- the negated number -/
theorem neg_num {l : List UInt8} (hl : ∀ i, i < l.length → l.getD i 0 = 48 ∨ l.getD i 0 = 49) (h0 : 0 < num l l.length) : num (sumK (List.replicate l.length 48) (l.map notB) 49 l.length) l.length = 2 ^ l.length - num l l.length := by
  have hz : ∀ i, i < (List.replicate l.length (48 : UInt8)).length → (List.replicate l.length (48 : UInt8)).getD i 0 = 48 ∨ (List.replicate l.length (48 : UInt8)).getD i 0 = 49 := by
    intro i hi
    rw [getD_at hi, List.getElem_replicate]; exact .inl rfl
  have hp := (plus_num (l := List.replicate l.length 48) (m := l.map notB) (c := 49) hz (fun i hi => not_known hl i (by simpa using hi)) (.inr rfl) l.length (by simp)).1
  rw [num_zero] at hp
  have hn := num_not hl l.length (Nat.le_refl _)
  have hlt := num_lt (sumK (List.replicate l.length 48) (l.map notB) 49 l.length) l.length
  have hb : bit1 (49 : UInt8) = 1 := by decide
  rw [hb] at hp
  generalize num (sumK (List.replicate l.length 48) (l.map notB) 49 l.length) l.length = s at hp hlt ⊢
  have hc : bit1 (carK (List.replicate l.length 48) (l.map notB) 49 l.length) = 0 ∨ bit1 (carK (List.replicate l.length 48) (l.map notB) 49 l.length) = 1 := by unfold bit1; split <;> simp
  rcases hc with hc | hc <;> rw [hc] at hp <;> omega
end Go.Proofs.YtdpmojkpfnkcdaaDoor
namespace Go.Proofs.YtdpmojkpfnkcdaaDoor
open Go Go.RowKit Go.Sort
set_option linter.unusedVariables false
abbrev Gives (f : FuncId) (args : Array Value) (r : Rb) : Prop := ∀ w : World, Calls Tryd.prog f args w fun e w' => e = .returned (.agg #[.int .i64 r.W, .int .u64 (U r.v), .int .u64 (U r.x)]) ∧ Below w.heap.size w w'
theorem ret_zero : Ending.returned (.agg #[.int .i64 0, .int .u64 0, .int .u64 0]) = Ending.returned (.agg #[.int .i64 (⟨0, 0#64, 0#64⟩ : Rb).W, .int .u64 (U (⟨0, 0#64, 0#64⟩ : Rb).v), .int .u64 (U (⟨0, 0#64, 0#64⟩ : Rb).x)]) := by
  simp only [show U 0#64 = 0 from by decide]
theorem gives_zero {f : FuncId} {args : Array Value} (h : ∀ w : World, Calls Tryd.prog f args w fun e w' => e = .returned (.agg #[.int .i64 0, .int .u64 0, .int .u64 0]) ∧ Below w.heap.size w w') : Gives f args ⟨0, 0#64, 0#64⟩ :=
  fun w => (h w).mono fun _ _ ⟨a, b⟩ => ⟨a.trans ret_zero, b⟩
def sliceB (b : Rb) (at_ k : Int) : Bool := b.okB && decide (0 ≤ at_ ∧ at_ < b.W ∧ 1 ≤ k ∧ k ≤ b.W - at_)
theorem slice_spec (b : Rb) (at_ k : Int) (hk : Hid (k ≤ 9223372036854775807)) : ∃ SL : Rb, Gives 35 #[.agg #[.int .i64 b.W, .int .u64 (U b.v), .int .u64 (U b.x)], .int .i64 at_, .int .i64 k] SL ∧
    (sliceB b at_ k = true → ∃ n an kn : Nat, b.W = n ∧ Ok n b.v b.x ∧ at_ = an ∧ k = kn ∧ 1 ≤ kn ∧ an + kn ≤ n ∧ Bl (((vl ⟨b.v, b.x⟩ n).drop an).take kn) = SL) ∧ (sliceB b at_ k = false → SL = ⟨0, 0#64, 0#64⟩) := by
  unfold sliceB
  cases ho : b.okB
  · exact ⟨_, gives_zero fun w => slice_ill b at_ k w ho, fun h => by simp at h, fun _ => rfl⟩
  · obtain ⟨n, e, o⟩ := Rb.ok_of ho
    rw [e]
    have hk' := hk.out
    by_cases c : 0 ≤ at_ ∧ at_ < (n : Int) ∧ 1 ≤ k ∧ k ≤ (n : Int) - at_
    · obtain ⟨an, rfl⟩ : ∃ an : Nat, at_ = an := ⟨at_.toNat, by omega⟩
      obtain ⟨kn, rfl⟩ : ∃ kn : Nat, k = kn := ⟨k.toNat, by omega⟩
      have o2 := o.hi
      refine ⟨⟨kn, (vslice an kn ⟨b.v, b.x⟩).v, (vslice an kn ⟨b.v, b.x⟩).x⟩, fun w => slice_v n an kn ⟨b.v, b.x⟩ w o (by omega) (by omega), fun _ => ⟨n, an, kn, rfl, o, rfl, rfl, by omega, by omega, ?_⟩, fun h => ?_⟩
      · exact Bl_map (vslice_ok (by omega) (by omega) an _) (vl_drop _ n an kn (by omega) (by omega))
      · rw [decide_eq_true c] at h; simp at h
    · refine ⟨⟨0, 0#64, 0#64⟩, ?_, fun h => ?_, fun _ => rfl⟩
      · by_cases c1 : k < 1
        · exact gives_zero fun w => slice_z1 n ⟨b.v, b.x⟩ at_ k w o c1
        · by_cases c2 : at_ < 0
          · exact gives_zero fun w => slice_z2 n ⟨b.v, b.x⟩ at_ k w o (by omega) c2
          · exact gives_zero fun w => slice_z3 n ⟨b.v, b.x⟩ at_ k w o (by omega) hk' (by omega) (by omega)
      · rw [decide_eq_false c] at h; simp at h
theorem put_spec (b c : Rb) (at_ : Int) (hat : Hid (-9223372036854775808 ≤ at_)) : ∃ PU : Rb, Gives 37 #[.agg #[.int .i64 b.W, .int .u64 (U b.v), .int .u64 (U b.x)], .int .i64 at_, .agg #[.int .i64 c.W, .int .u64 (U c.v), .int .u64 (U c.x)]] PU ∧
    ((b.okB && c.okB) = true → ∃ n q : Nat, b.W = n ∧ c.W = q ∧ Ok n b.v b.x ∧ Ok q c.v c.x ∧ Bl ((List.range n).map (plF (vl ⟨b.v, b.x⟩ n) (max (-100) (min at_ 100)) (vl ⟨c.v, c.x⟩ q) q)) = PU) ∧ ((b.okB && c.okB) = false → PU = ⟨0, 0#64, 0#64⟩) := by
  cases hb : b.okB
  · exact ⟨_, gives_zero fun w => put_ill1 b c at_ w hb, fun h => by simp at h, fun _ => rfl⟩
  · obtain ⟨n, e, o⟩ := Rb.ok_of hb
    rw [e]
    cases hc : c.okB
    · exact ⟨_, gives_zero fun w => put_ill2 n ⟨b.v, b.x⟩ c at_ w o hc, fun h => by simp at h, fun _ => rfl⟩
    · obtain ⟨q, e2, o2⟩ := Rb.ok_of hc
      rw [e2]
      refine ⟨⟨n, (vpi n q ⟨b.v, b.x⟩ at_ ⟨c.v, c.x⟩).v, (vpi n q ⟨b.v, b.x⟩ at_ ⟨c.v, c.x⟩).x⟩, fun w => put_int n q ⟨b.v, b.x⟩ ⟨c.v, c.x⟩ at_ w o o2 hat, fun _ => ⟨n, q, rfl, rfl, o, o2, ?_⟩, fun h => by simp at h⟩
      exact Bl_map (vpi_ok o) (placed_vl o o2 at_ _ rfl)
def sizeB (b : Rb) (k : Int) : Bool := b.okB && decide (1 ≤ k ∧ k ≤ 64)
theorem size_spec (b : Rb) (k : Int) (s : Bool) : ∃ SZ : Rb, Gives 38 #[.agg #[.int .i64 b.W, .int .u64 (U b.v), .int .u64 (U b.x)], .int .i64 k, .bool s] SZ ∧
    (sizeB b k = true → ∃ n kn : Nat, b.W = n ∧ k = kn ∧ 1 ≤ kn ∧ kn ≤ 64 ∧ Ok n b.v b.x ∧ Bl ((List.range kn).map (strF (vl ⟨b.v, b.x⟩ n) s)) = SZ) ∧ (sizeB b k = false → SZ = ⟨0, 0#64, 0#64⟩) := by
  unfold sizeB
  cases hb : b.okB
  · exact ⟨_, gives_zero fun w => resize_ill b k s w hb, fun h => by simp at h, fun _ => rfl⟩
  · obtain ⟨n, e, o⟩ := Rb.ok_of hb
    rw [e]
    by_cases c : 1 ≤ k ∧ k ≤ 64
    · obtain ⟨kn, rfl⟩ : ∃ kn : Nat, k = kn := ⟨k.toNat, by omega⟩
      cases s
      · refine ⟨⟨kn, (vcut kn ⟨b.v, b.x⟩).v, (vcut kn ⟨b.v, b.x⟩).x⟩, fun w => resize_false n kn ⟨b.v, b.x⟩ w o o.lo o.hi (by omega) (by omega), fun _ => ⟨n, kn, rfl, rfl, by omega, by omega, o, ?_⟩, fun h => ?_⟩
        · exact Bl_map (vcut_ok (by omega) (by omega) _) (stretched_vl o (by omega) false)
        · rw [decide_eq_true c] at h; simp at h
      · refine ⟨⟨kn, (vext n kn ⟨b.v, b.x⟩).v, (vext n kn ⟨b.v, b.x⟩).x⟩, fun w => resize_true n kn ⟨b.v, b.x⟩ w o o.lo o.hi (by omega) (by omega), fun _ => ⟨n, kn, rfl, rfl, by omega, by omega, o, ?_⟩, fun h => ?_⟩
        · exact Bl_map (vext_ok (by omega) (by omega) n _) (stretched_vl o (by omega) true)
        · rw [decide_eq_true c] at h; simp at h
    · refine ⟨⟨0, 0#64, 0#64⟩, ?_, fun h => ?_, fun _ => rfl⟩
      · by_cases c1 : k < 1
        · exact gives_zero fun w => resize_lo n ⟨b.v, b.x⟩ k s w o c1
        · exact gives_zero fun w => resize_hi n ⟨b.v, b.x⟩ k s w o (by omega)
      · rw [decide_eq_false c] at h; simp at h
theorem lt_pow {q : Nat} {c : Vx} (hc : c.ok q) (hx : c.x = 0#64) : c.v.toNat < 2 ^ q := by
  rw [← num_vl hc hx]; exact num_lt _ q
theorem ext_int {q : Nat} (h1 : 1 ≤ q) (h2 : q ≤ 64) (v : BitVec 64) (hs : v.toNat < 2 ^ q) : S (ext q v) = if 2 * v.toNat < 2 ^ q then (v.toNat : Int) else (v.toNat : Int) - ((2 ^ q : Nat) : Int) := by
  have hp : 2 ^ q * 2 ^ (64 - q) = 2 ^ 64 := by rw [← Nat.pow_add]; congr 1; omega
  have hpos : 0 < 2 ^ (64 - q) := Nat.two_pow_pos _
  have hlt : v.toNat * 2 ^ (64 - q) < 2 ^ 64 := by rw [← hp]; exact Nat.mul_lt_mul_of_pos_right hs hpos
  unfold S ext
  rw [BitVec.toInt_sshiftRight, BitVec.toInt_eq_toNat_cond, BitVec.toNat_shiftLeft, Nat.shiftLeft_eq, Nat.mod_eq_of_lt hlt, Int.shiftRight_eq_div_pow]
  generalize 2 ^ (64 - q) = p at hp hpos hlt ⊢
  generalize 2 ^ q = r at hs hp ⊢
  generalize v.toNat = N at hs hlt ⊢
  have hp0 : (p : Int) ≠ 0 := by omega
  by_cases c : 2 * N < r
  · have hc : 2 * (N * p) < 2 ^ 64 := by
      rw [← Nat.mul_assoc, ← hp]; exact Nat.mul_lt_mul_of_pos_right c hpos
    rw [if_pos hc, if_pos c, Int.natCast_mul]
    exact Int.mul_ediv_cancel _ hp0
  · have hc : ¬ 2 * (N * p) < 2 ^ 64 := by
      rw [← Nat.mul_assoc, ← hp]
      exact Nat.not_lt.2 (Nat.mul_le_mul_right p (Nat.not_lt.1 c))
    rw [if_neg hc, if_neg c]
    have e : ((N * p : Nat) : Int) - ((2 ^ 64 : Nat) : Int) = ((N : Int) - (r : Int)) * (p : Int) := by
      rw [← hp, Int.natCast_mul, Int.natCast_mul, Int.sub_mul]
    rw [e]
    exact Int.mul_ediv_cancel _ hp0
theorem top_bit {q : Nat} {c : Vx} (hc : c.ok q) (hx : c.x = 0#64) : ((vl c q).getD (q - 1) 0 = 49) ↔ ¬ 2 * c.v.toNat < 2 ^ q := by
  have h1 := hc.lo
  have hs := lt_pow hc hx
  have e := num_vl hc hx
  obtain ⟨k, rfl⟩ : ∃ k, q = k + 1 := ⟨q - 1, by omega⟩
  rw [Nat.add_sub_cancel]
  have h9 : num (vl c (k + 1)) (k + 1) = num (vl c (k + 1)) k + if (vl c (k + 1)).getD k 0 = 49 then 2 ^ k else 0 := rfl
  have h8 := num_lt (vl c (k + 1)) k
  rw [e] at h9
  rw [Nat.pow_succ] at hs ⊢
  by_cases b : (vl c (k + 1)).getD k 0 = 49
  · rw [if_pos b] at h9
    constructor
    · intro _; omega
    · intro _; exact b
  · rw [if_neg b] at h9
    constructor
    · intro h; exact absurd h b
    · intro h; omega
theorem off_known {q : Nat} {c : Vx} (hc : c.ok q) (hx : c.x = 0#64) : ∀ i, i < (vl c q).length → (vl c q).getD i 0 = 48 ∨ (vl c q).getD i 0 = 49 := by
  intro i hi
  rw [vl_len] at hi
  rw [vl_get c q i hi]
  unfold st; rw [hx]
  cases c.v.getLsbD i <;> simp
/-- what Offset returns of a known vector, and the program's position -/
theorem offset_spec {q : Nat} {c : Vx} (s : Bool) (hc : c.ok q) (hx : c.x = 0#64) : ∃ off g : Int, (∀ (v : Value) (w : World), Row8 w v (vl c q) → Calls Tryd.prog 34 #[v, .bool s] w fun e w' => e = .returned (.int .i64 off) ∧ Below w.heap.size w w') ∧
    (off = g ∨ (64 ≤ off ∧ 64 ≤ g) ∨ (off ≤ -64 ∧ g ≤ -64)) ∧ -100 ≤ off ∧ off ≤ 100 ∧ -64 ≤ g ∧ (if s then max (S (ext q c.v)) (-64) = g else (0 ≤ g ∧ g ≤ 64 ∧ min (U c.v) 64 = g)) := by
  have h1 := hc.lo
  have h2 := hc.hi
  have hn := num_vl hc hx
  have hlt := lt_pow hc hx
  have hcnt : cntD (vl c q) 100 q = min c.v.toNat 100 := by
    have := cnt_num (vl c q) 100
    rw [vl_len, hn] at this; exact this
  have hU : U c.v = (c.v.toNat : Int) := rfl
  cases s
  · refine ⟨((min c.v.toNat 100 : Nat) : Int), ((min c.v.toNat 64 : Nat) : Int), fun v w hv => ?_, ?_, by omega, by omega, by omega, ?_⟩
    · have := offset_u v (vl c q) (by rw [vl_len]; exact h1) (by rw [vl_len]; omega) w hv
      rw [vl_len, hcnt] at this; exact this
    · omega
    · rw [if_neg (by simp), hU]; omega
  · have he := ext_int h1 h2 c.v hlt
    by_cases b : 2 * c.v.toNat < 2 ^ q
    · rw [if_pos b] at he
      refine ⟨((min c.v.toNat 100 : Nat) : Int), (c.v.toNat : Int), fun v w hv => ?_, ?_, by omega, by omega, by omega, ?_⟩
      · have hne : (vl c q).getD ((vl c q).length - 1) 0 ≠ 49 := by rw [vl_len]; exact fun e => (top_bit hc hx).1 e b
        have := offset_p v (vl c q) (by rw [vl_len]; exact h1) (by rw [vl_len]; omega) hne w hv
        rw [vl_len, hcnt] at this; exact this
      · omega
      · rw [if_pos rfl, he]; omega
    · rw [if_neg b] at he
      have hpos : 0 < num (vl c q) (vl c q).length := by
        rw [vl_len, hn]
        have := Nat.two_pow_pos q
        omega
      have hneg := neg_num (off_known hc hx) hpos
      rw [vl_len, hn] at hneg
      have hcn : cntD (sumK (List.replicate q 48) ((vl c q).map notB) 49 q) 100 q = min (2 ^ q - c.v.toNat) 100 := by
        have := cnt_num (sumK (List.replicate q 48) ((vl c q).map notB) 49 q) 100
        rw [sumK_len, hneg] at this; exact this
      have b' := b
      generalize 2 ^ q = r at hlt he b hcn
      refine ⟨-((min (r - c.v.toNat) 100 : Nat) : Int), max ((c.v.toNat : Int) - (r : Int)) (-64), fun v w hv => ?_, ?_, by omega, by omega, by omega, ?_⟩
      · have hte : (vl c q).getD ((vl c q).length - 1) 0 = 49 := by
          rw [vl_len]; exact (top_bit hc hx).2 b'
        have := offset_n v (vl c q) (by rw [vl_len]; exact h1) (by rw [vl_len]; omega) hte w hv
        rw [vl_len, hcn] at this; exact this
      · omega
      · rw [if_pos rfl, he]
theorem S_hi (v : BitVec 64) : S v ≤ 9223372036854775807 := by
  have := BitVec.toInt_lt (x := v)
  unfold S; omega
theorem fill_vl {n : Nat} (h : n ≤ 64) : List.replicate n (120 : UInt8) = vl (fl n 3) n := by
  rw [← map_vl (f := fun _ => (120 : UInt8)) fun i hi => (fl3_st h hi).symm]
  simp [List.map_const']
theorem part_spec (b c : Rb) (s : Bool) (k : Int) : ∃ PT : Rb, Gives 36 #[.agg #[.int .i64 b.W, .int .u64 (U b.v), .int .u64 (U b.x)], .agg #[.int .i64 c.W, .int .u64 (U c.v), .int .u64 (U c.x)], .bool s, .int .i64 k] PT ∧
    ((sizeB b k && c.okB) = true → ∃ n q kn : Nat, b.W = n ∧ c.W = q ∧ k = kn ∧ 1 ≤ kn ∧ kn ≤ 64 ∧ Ok n b.v b.x ∧ Ok q c.v c.x ∧ ((c.x == 0#64) = false → Bl (List.replicate kn 120) = PT) ∧
      ((c.x == 0#64) = true → ∃ off : Int, (∀ (v : Value) (w : World), Row8 w v (vl ⟨c.v, c.x⟩ q) → Calls Tryd.prog 34 #[v, .bool s] w fun e w' => e = .returned (.int .i64 off) ∧ Below w.heap.size w w') ∧ -100 ≤ off ∧ off ≤ 100 ∧ Bl ((List.range kn).map (winF (vl ⟨b.v, b.x⟩ n) off)) = PT)) ∧
    ((sizeB b k && c.okB) = false → PT = ⟨0, 0#64, 0#64⟩) := by
  unfold sizeB
  cases hb : b.okB
  · exact ⟨_, gives_zero fun w => part_ill1 b c s k w hb, fun h => by simp at h, fun _ => rfl⟩
  obtain ⟨n, e, o⟩ := Rb.ok_of hb
  rw [e]
  cases hc : c.okB
  · exact ⟨_, gives_zero fun w => part_ill2 n ⟨b.v, b.x⟩ c s k w o hc, fun h => by simp at h, fun _ => rfl⟩
  obtain ⟨q, e2, o2⟩ := Rb.ok_of hc
  rw [e2]
  have key : ∀ t : Rb, (∀ w : World, Calls Tryd.prog 18 #[.int .i64 k, .int .u8 120] w fun e w' => e = .returned (.agg #[.int .i64 t.W, .int .u64 (U t.v), .int .u64 (U t.x)]) ∧ Below w.heap.size w w') →
      ((c.x == 0#64) = false → Gives 36 #[.agg #[.int .i64 n, .int .u64 (U b.v), .int .u64 (U b.x)], .agg #[.int .i64 q, .int .u64 (U c.v), .int .u64 (U c.x)], .bool s, .int .i64 k] t) ∧
      ((c.x == 0#64) = true → ∃ off g : Int, (∀ (v : Value) (w : World), Row8 w v (vl ⟨c.v, c.x⟩ q) → Calls Tryd.prog 34 #[v, .bool s] w fun e w' => e = .returned (.int .i64 off) ∧ Below w.heap.size w w') ∧ (off = g ∨ (64 ≤ off ∧ 64 ≤ g) ∨ (off ≤ -64 ∧ g ≤ -64)) ∧ -100 ≤ off ∧ off ≤ 100 ∧ Hid (-9223372036854775808 ≤ -g) ∧
        ∀ r : Rb, (∀ w : World, Calls Tryd.prog 37 #[.agg #[.int .i64 t.W, .int .u64 (U t.v), .int .u64 (U t.x)], .int .i64 (-g), .agg #[.int .i64 n, .int .u64 (U b.v), .int .u64 (U b.x)]] w fun e w' => e = .returned (.agg #[.int .i64 r.W, .int .u64 (U r.v), .int .u64 (U r.x)]) ∧ Below w.heap.size w w') → Gives 36 #[.agg #[.int .i64 n, .int .u64 (U b.v), .int .u64 (U b.x)], .agg #[.int .i64 q, .int .u64 (U c.v), .int .u64 (U c.x)], .bool s, .int .i64 k] r) := by
    intro t ht
    refine ⟨fun hx w => part_un n q ⟨b.v, b.x⟩ ⟨c.v, c.x⟩ s k t w o o2 hx ht, fun hx => ?_⟩
    obtain ⟨off, g, h1, h2, h3, h4, h5, h6⟩ := offset_spec (c := ⟨c.v, c.x⟩) s o2 (eq_of_beq hx)
    cases s
    · rw [if_neg (by simp)] at h6
      exact ⟨off, g, h1, h2, h3, h4, Lib.hid (by omega), fun r hr w => part_gu n q ⟨b.v, b.x⟩ ⟨c.v, c.x⟩ k g t r w o o2 hx h6.1 h6.2.1 h6.2.2 ht hr⟩
    · rw [if_pos rfl] at h6
      have hS := S_hi (ext q c.v)
      have h6' : max (S (ext q c.v)) (-64) = g := h6
      exact ⟨off, g, h1, h2, h3, h4, Lib.hid (by omega), fun r hr w => part_gs n q ⟨b.v, b.x⟩ ⟨c.v, c.x⟩ k g t r w o o2 hx h5 (by omega) h6 ht hr⟩
  by_cases hk : 1 ≤ k ∧ k ≤ 64
  · obtain ⟨kn, rfl⟩ : ∃ kn : Nat, k = kn := ⟨k.toNat, by omega⟩
    have k1 : 1 ≤ kn := by omega
    have k2 : kn ≤ 64 := by omega
    obtain ⟨f1, f2⟩ := key ⟨kn, (fl kn 3).v, (fl kn 3).x⟩ fun w => all_x kn w k1 k2
    cases hx : (c.x == 0#64)
    · refine ⟨_, f1 hx, fun _ => ⟨n, q, kn, rfl, rfl, rfl, k1, k2, o, o2, fun _ => Bl_map (fl_ok k1 k2 3) (fill_vl k2), fun h => by cases h⟩, fun h => ?_⟩
      rw [decide_eq_true hk] at h; simp at h
    · obtain ⟨off, g, h1, h2, h3, h4, h5, h6⟩ := f2 hx
      refine ⟨⟨kn, (vpi kn n (fl kn 3) (-g) ⟨b.v, b.x⟩).v, (vpi kn n (fl kn 3) (-g) ⟨b.v, b.x⟩).x⟩, h6 _ fun w => put_int kn n (fl kn 3) ⟨b.v, b.x⟩ (-g) w (fl_ok k1 k2 3) o h5, fun _ => ⟨n, q, kn, rfl, rfl, rfl, k1, k2, o, o2, (fun h => by cases h), fun _ => ⟨off, h1, h3, h4, ?_⟩⟩, fun h => ?_⟩
      · exact Bl_map (vpi_ok (fl_ok k1 k2 3)) (window_vl o k2 off g h2)
      · rw [decide_eq_true hk] at h; simp at h
  · obtain ⟨f1, f2⟩ := key ⟨0, 0#64, 0#64⟩ fun w => (all_out 120 k w hk).mono fun _ _ ⟨a, b⟩ => ⟨a.trans ret_zero, b⟩
    refine ⟨⟨0, 0#64, 0#64⟩, ?_, fun h => ?_, fun _ => rfl⟩
    · cases hx : (c.x == 0#64)
      · exact f1 hx
      · obtain ⟨off, g, h1, h2, h3, h4, h5, h6⟩ := f2 hx
        exact h6 _ (gives_zero fun w => put_ill1 ⟨0, 0#64, 0#64⟩ ⟨n, b.v, b.x⟩ (-g) w (by decide))
    · rw [decide_eq_false hk] at h; simp at h
end Go.Proofs.YtdpmojkpfnkcdaaDoor
namespace Go.Proofs.YtdpmojkpfnkcdaaDoor
open Go Go.RowKit Go.Sort
set_option linter.unusedVariables false
theorem valid_at (r : Rb) (t : Bool) (h : r.okB = t) (w : World) : Calls Tryd.prog 9 #[.agg #[.int .i64 r.W, .int .u64 (U r.v), .int .u64 (U r.x)]] w fun e w' => e = .returned (.bool t) ∧ Below w.heap.size w w' := by
  rw [← h]; exact refValid_any r w
def Z0 : Rb := ⟨0, 0#64, 0#64⟩
theorem u0 : U 0#64 = 0 := by decide
/-- what the law's variables hold -/
structure PB (w : World) (g : Nat) (b c sl pt pu sz : Rb) (W : World) : Prop where
  bb : Box W w.heap.size b.W (U b.v) (U b.x)
  bc : Box W (w.heap.size + 1) c.W (U c.v) (U c.x)
  bs : Box W g sl.W (U sl.v) (U sl.x)
  bp : Box W (g + 1) pt.W (U pt.v) (U pt.x)
  bu : Box W (g + 1 + 1) pu.W (U pu.v) (U pu.x)
  bz : Box W (g + 1 + 1 + 1) sz.W (U sz.v) (U sz.x)
  lt : w.heap.size + 1 < g
  lo : Below w.heap.size w W
theorem PB.below {w : World} {g : Nat} {b c sl pt pu sz : Rb} {W W' : World} (h : PB w g b c sl pt pu sz W) (hb : Below W.heap.size W W') : PB w g b c sl pt pu sz W' :=
  ⟨h.bb.below hb, h.bc.below hb, h.bs.below hb, h.bp.below hb, h.bu.below hb, h.bz.below hb, h.lt, h.lo.trans (hb.mono h.lo.size)⟩
theorem PB.low {w : World} {g q : Nat} {b c sl pt pu sz : Rb} {W : World} (h : PB w g b c sl pt pu sz W) (hq : g ≤ q) (x y z : Value) : Below w.heap.size w (((W.setCell ⟨q, 0, none⟩ x).setCell ⟨q, 1, none⟩ y).setCell ⟨q, 2, none⟩ z) := by
  have := h.lt
  exact ((h.lo.setCell (by show w.heap.size ≤ q; omega) _).setCell (by show w.heap.size ≤ q; omega) _).setCell (by show w.heap.size ≤ q; omega) _
theorem PB.puts {w : World} {g : Nat} {b c sl pt pu sz : Rb} {W : World} (h : PB w g b c sl pt pu sz W) (r : Rb) : PB w g b c r pt pu sz (((W.setCell ⟨g, 0, none⟩ (.int .i64 r.W)).setCell ⟨g, 1, none⟩ (.int .u64 (U r.v))).setCell ⟨g, 2, none⟩ (.int .u64 (U r.x))) := by
  have := h.lt
  exact ⟨h.bb.other (by omega) _ _ _, h.bc.other (by omega) _ _ _, h.bs.set _ _ _, h.bp.other (by omega) _ _ _, h.bu.other (by omega) _ _ _, h.bz.other (by omega) _ _ _, h.lt, h.low (Nat.le_refl _) _ _ _⟩
theorem PB.putp {w : World} {g : Nat} {b c sl pt pu sz : Rb} {W : World} (h : PB w g b c sl pt pu sz W) (r : Rb) : PB w g b c sl r pu sz (((W.setCell ⟨g + 1, 0, none⟩ (.int .i64 r.W)).setCell ⟨g + 1, 1, none⟩ (.int .u64 (U r.v))).setCell ⟨g + 1, 2, none⟩ (.int .u64 (U r.x))) := by
  have := h.lt
  exact ⟨h.bb.other (by omega) _ _ _, h.bc.other (by omega) _ _ _, h.bs.other (by omega) _ _ _, h.bp.set _ _ _, h.bu.other (by omega) _ _ _, h.bz.other (by omega) _ _ _, h.lt, h.low (by omega) _ _ _⟩
theorem PB.putu {w : World} {g : Nat} {b c sl pt pu sz : Rb} {W : World} (h : PB w g b c sl pt pu sz W) (r : Rb) : PB w g b c sl pt r sz (((W.setCell ⟨g + 1 + 1, 0, none⟩ (.int .i64 r.W)).setCell ⟨g + 1 + 1, 1, none⟩ (.int .u64 (U r.v))).setCell ⟨g + 1 + 1, 2, none⟩ (.int .u64 (U r.x))) := by
  have := h.lt
  exact ⟨h.bb.other (by omega) _ _ _, h.bc.other (by omega) _ _ _, h.bs.other (by omega) _ _ _, h.bp.other (by omega) _ _ _, h.bu.set _ _ _, h.bz.other (by omega) _ _ _, h.lt, h.low (by omega) _ _ _⟩
theorem PB.putz {w : World} {g : Nat} {b c sl pt pu sz : Rb} {W : World} (h : PB w g b c sl pt pu sz W) (r : Rb) : PB w g b c sl pt pu r (((W.setCell ⟨g + 1 + 1 + 1, 0, none⟩ (.int .i64 r.W)).setCell ⟨g + 1 + 1 + 1, 1, none⟩ (.int .u64 (U r.v))).setCell ⟨g + 1 + 1 + 1, 2, none⟩ (.int .u64 (U r.x))) := by
  have := h.lt
  exact ⟨h.bb.other (by omega) _ _ _, h.bc.other (by omega) _ _ _, h.bs.other (by omega) _ _ _, h.bp.other (by omega) _ _ _, h.bu.other (by omega) _ _ _, h.bz.set _ _ _, h.lt, h.low (by omega) _ _ _⟩
abbrev zObj : Obj := Obj.cells #[Value.int IntKind.i64 0, Value.int IntKind.u64 0, Value.int IntKind.u64 0] 24
theorem pb_new {w w1 : World} {b c : Rb} (bb : Box w1 w.heap.size b.W (U b.v) (U b.x)) (bc : Box w1 (w.heap.size + 1) c.W (U c.v) (U c.x)) (lo : Below w.heap.size w w1) :
    PB w w1.heap.size b c Z0 Z0 Z0 Z0 ((((w1.alloc zObj).alloc zObj).alloc zObj).alloc zObj) := by
  have l := bc.lt
  have hb : Below w1.heap.size w1 ((((w1.alloc zObj).alloc zObj).alloc zObj).alloc zObj) := ((((Below.refl _ _).alloc (Nat.le_refl _) _).alloc (by simp) _).alloc (by simp; omega) _).alloc (by simp; omega) _
  refine ⟨bb.below hb, bc.below hb, ?_, ?_, ?_, ?_, l, lo.trans (hb.mono lo.size)⟩ <;> simp only [Z0, u0] <;> exact ⟨by go_simp, by go_simp, by go_simp, fun o => by go_simp⟩
theorem two_new {w : World} (b c : Rb) : Box ((w.alloc (Obj.cells #[Value.int IntKind.i64 b.W, Value.int IntKind.u64 (U b.v), Value.int IntKind.u64 (U b.x)] 24)).alloc (Obj.cells #[Value.int IntKind.i64 c.W, Value.int IntKind.u64 (U c.v), Value.int IntKind.u64 (U c.x)] 24)) w.heap.size b.W (U b.v) (U b.x) ∧ Box ((w.alloc (Obj.cells #[Value.int IntKind.i64 b.W, Value.int IntKind.u64 (U b.v), Value.int IntKind.u64 (U b.x)] 24)).alloc (Obj.cells #[Value.int IntKind.i64 c.W, Value.int IntKind.u64 (U c.v), Value.int IntKind.u64 (U c.x)] 24)) (w.heap.size + 1) c.W (U c.v) (U c.x) ∧ Below w.heap.size w ((w.alloc (Obj.cells #[Value.int IntKind.i64 b.W, Value.int IntKind.u64 (U b.v), Value.int IntKind.u64 (U b.x)] 24)).alloc (Obj.cells #[Value.int IntKind.i64 c.W, Value.int IntKind.u64 (U c.v), Value.int IntKind.u64 (U c.x)] 24)) := by
  refine ⟨⟨by go_simp, by go_simp, by go_simp, fun o => by go_simp⟩, ⟨by go_simp, by go_simp, by go_simp, fun o => by go_simp⟩, ((Below.refl _ _).alloc (Nat.le_refl _) _).alloc (by simp) _⟩
end Go.Proofs.YtdpmojkpfnkcdaaDoor
