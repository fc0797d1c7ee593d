/- Functions with one or two vectors in boxes and a vector as their result: what their boxes hold. No condition.
   Eq, Ne, CaseEq, CaseNe, Lt and Le of any vectors.
   The reference's One, Opposite, truthOf, same, Compared, below. No condition but lengths.
   The reference's Compared and below. No condition but lengths.
   Comparisons of lists of states are those of vectors. No condition.
   Sums, differences and lists of noughts of the reference, as numbers. No condition but lengths.
   The reference's times, as numbers. No condition but lengths.
   The reference's over, as numbers: the quotient and the remainder. The divisor is not nought; no other condition but lengths.
   The reference's shared, as numbers: quotient and remainder with and without signs. The divisor is not nought.
   The reference's Number, and Binary and Unary where they call it.
   Numbers of lists of known states and words: sums, differences, products, quotients and remainders. No condition. -/
import Derived.Test.YtodldcdfdjooaaaGreatDoorDigits
import Derived.Test.YtodldcdfdjooaaaGreatDoorRaw
import Derived.Test.YtodldcdfdjooaaaGreatDoorPair
import Derived.Test.YtodldcdfdjooaaaGreatDoorOrder
import Derived.Test.YtodldcdfdjooaaaGreatDoorRefB2
import Derived.Test.YtodldcdfdjooaaaGreatDoorEach
import Derived.Laws.IdiomStrings
import Derived.Test.YtodldcdfdjooaaaGreatDoorRefParts
import Derived.Test.YtodldcdfdjooaaaGreatDoorNumMath
import Derived.Deep.RegionLaw
import Derived.Deep.AppendLies
import Derived.Laws.OwnMore
import Derived.Below
import Derived.RegionTactic
import Derived.Deep.CutBlock
import Derived.Deep.DeepCutAuto
import Derived.Test.YtodldcdfdjooaaaGreatDoorArith2
namespace Go.Proofs.YtodldcdfdjooaaaGreatDoor
open Go Go.RowKit Go.Sort
set_option linter.unusedVariables false
abbrev bObj (a : Rb) : Obj := Obj.cells #[Value.int IntKind.i64 a.W, Value.int IntKind.u64 (U a.v), Value.int IntKind.u64 (U a.x)] 24
abbrev zObj : Obj := Obj.cells #[Value.int IntKind.i64 0, Value.int IntKind.u64 0, Value.int IntKind.u64 0] 24
structure TB (w : World) (a b : Rb) (rn rv rx : Int) (W : World) : Prop where
  ba : Box W w.heap.size a.W (U a.v) (U a.x)
  bb : Box W (w.heap.size + 1) b.W (U b.v) (U b.x)
  bp : Box W (w.heap.size + 1 + 1) rn rv rx
  lo : Below w.heap.size w W
theorem TB.below {w : World} {a b : Rb} {rn rv rx : Int} {W W' : World} (h : TB w a b rn rv rx W) (hb : Below W.heap.size W W') : TB w a b rn rv rx W' :=
  ⟨h.ba.below hb, h.bb.below hb, h.bp.below hb, h.lo.trans (hb.mono h.lo.size)⟩
theorem TB.put {w : World} {a b : Rb} {rn rv rx : Int} {W : World} (h : TB w a b rn rv rx W) (n v x : Int) : TB w a b n v x (((W.setCell ⟨w.heap.size + 1 + 1, 0, none⟩ (.int .i64 n)).setCell ⟨w.heap.size + 1 + 1, 1, none⟩ (.int .u64 v)).setCell ⟨w.heap.size + 1 + 1, 2, none⟩ (.int .u64 x)) :=
  ⟨h.ba.other (by omega) _ _ _, h.bb.other (by omega) _ _ _, h.bp.set _ _ _, ((h.lo.setCell (by show w.heap.size ≤ w.heap.size + 1 + 1; omega) _).setCell (by show w.heap.size ≤ w.heap.size + 1 + 1; omega) _).setCell (by show w.heap.size ≤ w.heap.size + 1 + 1; omega) _⟩
theorem tb_new {w : World} (a b : Rb) : TB w a b 0 0 0 (((w.alloc (bObj a)).alloc (bObj b)).alloc zObj) :=
  ⟨⟨by go_simp, by go_simp, by go_simp, fun o => by go_simp⟩, ⟨by go_simp, by go_simp, by go_simp, fun o => by go_simp⟩, ⟨by go_simp, by go_simp, by go_simp, fun o => by go_simp⟩, (((Below.refl _ _).alloc (Nat.le_refl _) _).alloc (by simp) _).alloc (by simp; omega) _⟩
structure SB (w : World) (a : Rb) (rn rv rx : Int) (W : World) : Prop where
  ba : Box W w.heap.size a.W (U a.v) (U a.x)
  bp : Box W (w.heap.size + 1) rn rv rx
  lo : Below w.heap.size w W
theorem SB.below {w : World} {a : Rb} {rn rv rx : Int} {W W' : World} (h : SB w a rn rv rx W) (hb : Below W.heap.size W W') : SB w a rn rv rx W' :=
  ⟨h.ba.below hb, h.bp.below hb, h.lo.trans (hb.mono h.lo.size)⟩
theorem SB.put {w : World} {a : Rb} {rn rv rx : Int} {W : World} (h : SB w a rn rv rx W) (n v x : Int) : SB w a n v x (((W.setCell ⟨w.heap.size + 1, 0, none⟩ (.int .i64 n)).setCell ⟨w.heap.size + 1, 1, none⟩ (.int .u64 v)).setCell ⟨w.heap.size + 1, 2, none⟩ (.int .u64 x)) :=
  ⟨h.ba.other (by omega) _ _ _, h.bp.set _ _ _, ((h.lo.setCell (by show w.heap.size ≤ w.heap.size + 1; omega) _).setCell (by show w.heap.size ≤ w.heap.size + 1; omega) _).setCell (by show w.heap.size ≤ w.heap.size + 1; omega) _⟩
theorem sb_new {w : World} (a : Rb) : SB w a 0 0 0 ((w.alloc (bObj a)).alloc zObj) :=
  ⟨⟨by go_simp, by go_simp, by go_simp, fun o => by go_simp⟩, ⟨by go_simp, by go_simp, by go_simp, fun o => by go_simp⟩, ((Below.refl _ _).alloc (Nat.le_refl _) _).alloc (by simp) _⟩
end Go.Proofs.YtodldcdfdjooaaaGreatDoor
namespace Go.Proofs.YtodldcdfdjooaaaGreatDoor
open Go Go.RowKit Go.Sort
set_option linter.unusedVariables false
set_option maxRecDepth 100000 in
set_option maxHeartbeats 1000000 in
theorem redor_ill (a : Rb) (w : World) (h : a.okB = false) : Calls Tryz.prog 10 #[.agg #[.int .i64 a.W, .int .u64 (U a.v), .int .u64 (U a.x)]] w fun e w' => e = .returned (.agg #[.int .i64 0, .int .u64 0, .int .u64 0]) ∧ Below w.heap.size w w' := by
  obtain ⟨aW, av, ax⟩ := a
  have va := Lib.hid fun w => valid_no aW av ax w h
  clear h
  show Calls Tryz.prog 10 #[.agg #[.int .i64 aW, .int .u64 (U av), .int .u64 (U ax)]] w _
  go_enter Tryz.func10, Tryz.ntmps10
  go_wp2_with fail
  have C := sb_new (w := w) ⟨aW, av, ax⟩
  generalize ((w.alloc (Obj.cells #[Value.int IntKind.i64 aW, Value.int IntKind.u64 (U av), Value.int IntKind.u64 (U ax)] 24)).alloc (Obj.cells #[Value.int IntKind.i64 0, Value.int IntKind.u64 0, Value.int IntKind.u64 0] 24)) = W at C ⊢
  obtain ⟨⟨a0, a1, a2, af⟩, ⟨p0, p1, p2, pf⟩, lo⟩ := id C
  go_wp2_with fail
  refine (va.out _).mono ?_
  rintro e W1 ⟨rfl, hb⟩
  replace C := C.below hb
  clear a0 a1 a2 af p0 p1 p2 pf lo hb
  obtain ⟨⟨a0, a1, a2, af⟩, ⟨p0, p1, p2, pf⟩, lo⟩ := id C
  go_wp2_with fail
  replace C := C.put 0 0 0
  clear a0 a1 a2 af p0 p1 p2 pf lo
  obtain ⟨⟨a0, a1, a2, af⟩, ⟨p0, p1, p2, pf⟩, lo⟩ := C
  exact bodyPost_ret (v := .agg #[.int .i64 0, .int .u64 0, .int .u64 0]) (by simp [results, Tryz.results10, go_sem, p0, p1, p2]) rfl ⟨rfl, lo⟩
set_option maxRecDepth 100000 in
set_option maxHeartbeats 1000000 in
theorem vnot_ill (a : Rb) (w : World) (h : a.okB = false) : Calls Tryz.prog 8 #[.agg #[.int .i64 a.W, .int .u64 (U a.v), .int .u64 (U a.x)]] w fun e w' => e = .returned (.agg #[.int .i64 0, .int .u64 0, .int .u64 0]) ∧ Below w.heap.size w w' := by
  obtain ⟨aW, av, ax⟩ := a
  have va := Lib.hid fun w => valid_no aW av ax w h
  clear h
  show Calls Tryz.prog 8 #[.agg #[.int .i64 aW, .int .u64 (U av), .int .u64 (U ax)]] w _
  go_enter Tryz.func8, Tryz.ntmps8
  go_wp2_with fail
  have C := sb_new (w := w) ⟨aW, av, ax⟩
  generalize ((w.alloc (Obj.cells #[Value.int IntKind.i64 aW, Value.int IntKind.u64 (U av), Value.int IntKind.u64 (U ax)] 24)).alloc (Obj.cells #[Value.int IntKind.i64 0, Value.int IntKind.u64 0, Value.int IntKind.u64 0] 24)) = W at C ⊢
  obtain ⟨⟨a0, a1, a2, af⟩, ⟨p0, p1, p2, pf⟩, lo⟩ := id C
  go_wp2_with fail
  refine (va.out _).mono ?_
  rintro e W1 ⟨rfl, hb⟩
  replace C := C.below hb
  clear a0 a1 a2 af p0 p1 p2 pf lo hb
  obtain ⟨⟨a0, a1, a2, af⟩, ⟨p0, p1, p2, pf⟩, lo⟩ := id C
  go_wp2_with fail
  replace C := C.put 0 0 0
  clear a0 a1 a2 af p0 p1 p2 pf lo
  obtain ⟨⟨a0, a1, a2, af⟩, ⟨p0, p1, p2, pf⟩, lo⟩ := C
  exact bodyPost_ret (v := .agg #[.int .i64 0, .int .u64 0, .int .u64 0]) (by simp [results, Tryz.results8, go_sem, p0, p1, p2]) rfl ⟨rfl, lo⟩
set_option maxRecDepth 100000 in
set_option maxHeartbeats 1000000 in
theorem lnot_ill (a : Rb) (w : World) (h : a.okB = false) : Calls Tryz.prog 12 #[.agg #[.int .i64 a.W, .int .u64 (U a.v), .int .u64 (U a.x)]] w fun e w' => e = .returned (.agg #[.int .i64 0, .int .u64 0, .int .u64 0]) ∧ Below w.heap.size w w' := by
  obtain ⟨aW, av, ax⟩ := a
  have va := Lib.hid fun w => redor_ill ⟨aW, av, ax⟩ w h
  have vb := Lib.hid fun w => vnot_ill ZR w rfl
  clear h
  have uz : U 0#64 = 0 := by decide
  simp only [ZR, uz] at vb
  show Calls Tryz.prog 12 #[.agg #[.int .i64 aW, .int .u64 (U av), .int .u64 (U ax)]] w _
  go_enter Tryz.func12, Tryz.ntmps12
  go_wp2_with fail
  have C := sb_new (w := w) ⟨aW, av, ax⟩
  generalize ((w.alloc (Obj.cells #[Value.int IntKind.i64 aW, Value.int IntKind.u64 (U av), Value.int IntKind.u64 (U ax)] 24)).alloc (Obj.cells #[Value.int IntKind.i64 0, Value.int IntKind.u64 0, Value.int IntKind.u64 0] 24)) = W at C ⊢
  obtain ⟨⟨a0, a1, a2, af⟩, ⟨p0, p1, p2, pf⟩, lo⟩ := id C
  go_wp2_with fail
  refine (va.out _).mono ?_
  rintro e W1 ⟨rfl, hb⟩
  replace C := C.below hb
  clear a0 a1 a2 af p0 p1 p2 pf lo hb
  obtain ⟨⟨a0, a1, a2, af⟩, ⟨p0, p1, p2, pf⟩, lo⟩ := id C
  go_wp2_with fail
  refine (vb.out _).mono ?_
  rintro e W2 ⟨rfl, hb⟩
  replace C := C.below hb
  clear a0 a1 a2 af p0 p1 p2 pf lo hb
  obtain ⟨⟨a0, a1, a2, af⟩, ⟨p0, p1, p2, pf⟩, lo⟩ := id C
  go_wp2_with fail
  replace C := C.put 0 0 0
  clear a0 a1 a2 af p0 p1 p2 pf lo
  obtain ⟨⟨a0, a1, a2, af⟩, ⟨p0, p1, p2, pf⟩, lo⟩ := C
  exact bodyPost_ret (v := .agg #[.int .i64 0, .int .u64 0, .int .u64 0]) (by simp [results, Tryz.results12, go_sem, p0, p1, p2]) rfl ⟨rfl, lo⟩
/-- LNot of any vector -/
def lnotR (r : Rb) : Rb := if r.okB then ⟨1, (vlnot ⟨r.v, r.x⟩).v, (vlnot ⟨r.v, r.x⟩).x⟩ else ZR
theorem lnot_any (r : Rb) (w : World) : Calls Tryz.prog 12 #[.agg #[.int .i64 r.W, .int .u64 (U r.v), .int .u64 (U r.x)]] w fun e w' => e = .returned (.agg #[.int .i64 (lnotR r).W, .int .u64 (U (lnotR r).v), .int .u64 (U (lnotR r).x)]) ∧ Below w.heap.size w w' := by
  cases h : r.okB
  · have e : lnotR r = ZR := by unfold lnotR; rw [h]; rfl
    rw [e]; exact lnot_ill r w h
  · obtain ⟨n, en, o⟩ := Rb.ok_of h
    have e : lnotR r = ⟨1, (vlnot ⟨r.v, r.x⟩).v, (vlnot ⟨r.v, r.x⟩).x⟩ := by unfold lnotR; rw [h]; rfl
    rw [e, en]; exact lnot_ok n ⟨r.v, r.x⟩ w o
/-- what a comparison makes of any vectors -/
def cmR (f : Vx → Vx → Vx) (a b : Rb) : Rb := if alikeB a b then ⟨1, (f ⟨a.v, a.x⟩ ⟨b.v, b.x⟩).v, (f ⟨a.v, a.x⟩ ⟨b.v, b.x⟩).x⟩ else ZR
theorem alike_of {a b : Rb} (h : alikeB a b = true) : ∃ n : Nat, a.W = n ∧ b.W = n ∧ Ok n a.v a.x ∧ Ok n b.v b.x := by
  unfold alikeB at h
  rw [Bool.and_eq_true, Bool.and_eq_true, decide_eq_true_eq] at h
  obtain ⟨n, en, o⟩ := Rb.ok_of h.1.1
  obtain ⟨m, em, p⟩ := Rb.ok_of h.1.2
  have : n = m := by have := h.2; omega
  subst this
  exact ⟨n, en, em, o, p⟩
def vceq (a b : Vx) : Vx := tr (a.v == b.v && a.x == b.x)
set_option maxRecDepth 100000 in
set_option maxHeartbeats 1000000 in
theorem eq_ill (a b : Rb) (w : World) (h : alikeB a b = false) : Calls Tryz.prog 57 #[.agg #[.int .i64 a.W, .int .u64 (U a.v), .int .u64 (U a.x)], .agg #[.int .i64 b.W, .int .u64 (U b.v), .int .u64 (U b.x)]] w fun e w' => e = .returned (.agg #[.int .i64 0, .int .u64 0, .int .u64 0]) ∧ Below w.heap.size w w' := by
  obtain ⟨aW, av, ax⟩ := a
  obtain ⟨bW, bv, bx⟩ := b
  have va := Lib.hid fun w => alike_no ⟨aW, av, ax⟩ ⟨bW, bv, bx⟩ w h
  clear h
  show Calls Tryz.prog 57 #[.agg #[.int .i64 aW, .int .u64 (U av), .int .u64 (U ax)], .agg #[.int .i64 bW, .int .u64 (U bv), .int .u64 (U bx)]] w _
  go_enter Tryz.func57, Tryz.ntmps57
  go_wp2_with fail
  have C := tb_new (w := w) ⟨aW, av, ax⟩ ⟨bW, bv, bx⟩
  generalize (((w.alloc (Obj.cells #[Value.int IntKind.i64 aW, Value.int IntKind.u64 (U av), Value.int IntKind.u64 (U ax)] 24)).alloc (Obj.cells #[Value.int IntKind.i64 bW, Value.int IntKind.u64 (U bv), Value.int IntKind.u64 (U bx)] 24)).alloc (Obj.cells #[Value.int IntKind.i64 0, Value.int IntKind.u64 0, Value.int IntKind.u64 0] 24)) = W at C ⊢
  obtain ⟨⟨a0, a1, a2, af⟩, ⟨b0, b1, b2, bf⟩, ⟨p0, p1, p2, pf⟩, lo⟩ := id C
  go_wp2_with fail
  refine (va.out _).mono ?_
  rintro e W1 ⟨rfl, hb⟩
  replace C := C.below hb
  clear a0 a1 a2 af b0 b1 b2 bf p0 p1 p2 pf lo hb
  obtain ⟨⟨a0, a1, a2, af⟩, ⟨b0, b1, b2, bf⟩, ⟨p0, p1, p2, pf⟩, lo⟩ := id C
  go_wp2_with fail
  replace C := C.put 0 0 0
  clear a0 a1 a2 af b0 b1 b2 bf p0 p1 p2 pf lo
  obtain ⟨⟨a0, a1, a2, af⟩, ⟨b0, b1, b2, bf⟩, ⟨p0, p1, p2, pf⟩, lo⟩ := C
  exact bodyPost_ret (v := .agg #[.int .i64 0, .int .u64 0, .int .u64 0]) (by simp [results, Tryz.results57, go_sem, p0, p1, p2]) rfl ⟨rfl, lo⟩
set_option maxRecDepth 100000 in
set_option maxHeartbeats 1000000 in
theorem ceq_ill (a b : Rb) (w : World) (h : alikeB a b = false) : Calls Tryz.prog 92 #[.agg #[.int .i64 a.W, .int .u64 (U a.v), .int .u64 (U a.x)], .agg #[.int .i64 b.W, .int .u64 (U b.v), .int .u64 (U b.x)]] w fun e w' => e = .returned (.agg #[.int .i64 0, .int .u64 0, .int .u64 0]) ∧ Below w.heap.size w w' := by
  obtain ⟨aW, av, ax⟩ := a
  obtain ⟨bW, bv, bx⟩ := b
  have va := Lib.hid fun w => alike_no ⟨aW, av, ax⟩ ⟨bW, bv, bx⟩ w h
  clear h
  show Calls Tryz.prog 92 #[.agg #[.int .i64 aW, .int .u64 (U av), .int .u64 (U ax)], .agg #[.int .i64 bW, .int .u64 (U bv), .int .u64 (U bx)]] w _
  go_enter Tryz.func92, Tryz.ntmps92
  go_wp2_with fail
  have C := tb_new (w := w) ⟨aW, av, ax⟩ ⟨bW, bv, bx⟩
  generalize (((w.alloc (Obj.cells #[Value.int IntKind.i64 aW, Value.int IntKind.u64 (U av), Value.int IntKind.u64 (U ax)] 24)).alloc (Obj.cells #[Value.int IntKind.i64 bW, Value.int IntKind.u64 (U bv), Value.int IntKind.u64 (U bx)] 24)).alloc (Obj.cells #[Value.int IntKind.i64 0, Value.int IntKind.u64 0, Value.int IntKind.u64 0] 24)) = W at C ⊢
  obtain ⟨⟨a0, a1, a2, af⟩, ⟨b0, b1, b2, bf⟩, ⟨p0, p1, p2, pf⟩, lo⟩ := id C
  go_wp2_with fail
  refine (va.out _).mono ?_
  rintro e W1 ⟨rfl, hb⟩
  replace C := C.below hb
  clear a0 a1 a2 af b0 b1 b2 bf p0 p1 p2 pf lo hb
  obtain ⟨⟨a0, a1, a2, af⟩, ⟨b0, b1, b2, bf⟩, ⟨p0, p1, p2, pf⟩, lo⟩ := id C
  go_wp2_with fail
  replace C := C.put 0 0 0
  clear a0 a1 a2 af b0 b1 b2 bf p0 p1 p2 pf lo
  obtain ⟨⟨a0, a1, a2, af⟩, ⟨b0, b1, b2, bf⟩, ⟨p0, p1, p2, pf⟩, lo⟩ := C
  exact bodyPost_ret (v := .agg #[.int .i64 0, .int .u64 0, .int .u64 0]) (by simp [results, Tryz.results92, go_sem, p0, p1, p2]) rfl ⟨rfl, lo⟩
set_option maxRecDepth 100000 in
set_option maxHeartbeats 1000000 in
theorem lt_ill (a b : Rb) (s : Bool) (w : World) (h : alikeB a b = false) : Calls Tryz.prog 59 #[.agg #[.int .i64 a.W, .int .u64 (U a.v), .int .u64 (U a.x)], .agg #[.int .i64 b.W, .int .u64 (U b.v), .int .u64 (U b.x)], .bool s] w fun e w' => e = .returned (.agg #[.int .i64 0, .int .u64 0, .int .u64 0]) ∧ Below w.heap.size w w' := by
  obtain ⟨aW, av, ax⟩ := a
  obtain ⟨bW, bv, bx⟩ := b
  have va := Lib.hid fun w => alike_no ⟨aW, av, ax⟩ ⟨bW, bv, bx⟩ w h
  clear h
  show Calls Tryz.prog 59 #[.agg #[.int .i64 aW, .int .u64 (U av), .int .u64 (U ax)], .agg #[.int .i64 bW, .int .u64 (U bv), .int .u64 (U bx)], .bool s] w _
  go_enter Tryz.func59, Tryz.ntmps59
  go_wp2_with fail
  have C := tb_new (w := w) ⟨aW, av, ax⟩ ⟨bW, bv, bx⟩
  generalize (((w.alloc (Obj.cells #[Value.int IntKind.i64 aW, Value.int IntKind.u64 (U av), Value.int IntKind.u64 (U ax)] 24)).alloc (Obj.cells #[Value.int IntKind.i64 bW, Value.int IntKind.u64 (U bv), Value.int IntKind.u64 (U bx)] 24)).alloc (Obj.cells #[Value.int IntKind.i64 0, Value.int IntKind.u64 0, Value.int IntKind.u64 0] 24)) = W at C ⊢
  obtain ⟨⟨a0, a1, a2, af⟩, ⟨b0, b1, b2, bf⟩, ⟨p0, p1, p2, pf⟩, lo⟩ := id C
  go_wp2_with fail
  refine (va.out _).mono ?_
  rintro e W1 ⟨rfl, hb⟩
  replace C := C.below hb
  clear a0 a1 a2 af b0 b1 b2 bf p0 p1 p2 pf lo hb
  obtain ⟨⟨a0, a1, a2, af⟩, ⟨b0, b1, b2, bf⟩, ⟨p0, p1, p2, pf⟩, lo⟩ := id C
  go_wp2_with fail
  replace C := C.put 0 0 0
  clear a0 a1 a2 af b0 b1 b2 bf p0 p1 p2 pf lo
  obtain ⟨⟨a0, a1, a2, af⟩, ⟨b0, b1, b2, bf⟩, ⟨p0, p1, p2, pf⟩, lo⟩ := C
  exact bodyPost_ret (v := .agg #[.int .i64 0, .int .u64 0, .int .u64 0]) (by simp [results, Tryz.results59, go_sem, p0, p1, p2]) rfl ⟨rfl, lo⟩
set_option maxRecDepth 100000 in
set_option maxHeartbeats 1000000 in
theorem ceq_yes (n : Nat) (av ax : BitVec 64) (w : World) (ha : Ok n av ax) : Calls Tryz.prog 92 #[.agg #[.int .i64 n, .int .u64 (U av), .int .u64 (U ax)], .agg #[.int .i64 n, .int .u64 (U av), .int .u64 (U ax)]] w fun e w' => e = .returned (.agg #[.int .i64 1, .int .u64 (U (tr true).v), .int .u64 (U (tr true).x)]) ∧ Below w.heap.size w w' := by
  have va := Lib.hid fun w => alike_ok n av ax av ax w ha ha
  have vt := Lib.hid fun w => truth_ok true w
  clear ha
  go_enter Tryz.func92, Tryz.ntmps92
  go_wp2_with fail
  have C := tb_new (w := w) ⟨n, av, ax⟩ ⟨n, av, ax⟩
  generalize (((w.alloc (Obj.cells #[Value.int IntKind.i64 n, Value.int IntKind.u64 (U av), Value.int IntKind.u64 (U ax)] 24)).alloc (Obj.cells #[Value.int IntKind.i64 n, Value.int IntKind.u64 (U av), Value.int IntKind.u64 (U ax)] 24)).alloc (Obj.cells #[Value.int IntKind.i64 0, Value.int IntKind.u64 0, Value.int IntKind.u64 0] 24)) = W at C ⊢
  obtain ⟨⟨a0, a1, a2, af⟩, ⟨b0, b1, b2, bf⟩, ⟨p0, p1, p2, pf⟩, lo⟩ := id C
  go_wp2_with fail
  refine (va.out _).mono ?_
  rintro e W1 ⟨rfl, hb⟩
  replace C := C.below hb
  clear a0 a1 a2 af b0 b1 b2 bf p0 p1 p2 pf lo hb
  obtain ⟨⟨a0, a1, a2, af⟩, ⟨b0, b1, b2, bf⟩, ⟨p0, p1, p2, pf⟩, lo⟩ := id C
  go_wp2_with fail
  refine (vt.out _).mono ?_
  rintro e W2 ⟨rfl, hb⟩
  replace C := C.below hb
  clear a0 a1 a2 af b0 b1 b2 bf p0 p1 p2 pf lo hb
  obtain ⟨⟨a0, a1, a2, af⟩, ⟨b0, b1, b2, bf⟩, ⟨p0, p1, p2, pf⟩, lo⟩ := id C
  go_wp2_with fail
  replace C := C.put 1 (U (tr true).v) (U (tr true).x)
  clear a0 a1 a2 af b0 b1 b2 bf p0 p1 p2 pf lo
  obtain ⟨⟨a0, a1, a2, af⟩, ⟨b0, b1, b2, bf⟩, ⟨p0, p1, p2, pf⟩, lo⟩ := C
  exact bodyPost_ret (v := .agg #[.int .i64 1, .int .u64 (U (tr true).v), .int .u64 (U (tr true).x)]) (by simp [results, Tryz.results92, go_sem, p0, p1, p2]) rfl ⟨rfl, lo⟩
set_option maxRecDepth 100000 in
set_option maxHeartbeats 1000000 in
theorem ceq_n1 (n : Nat) (av ax bv bx : BitVec 64) (w : World) (ha : Ok n av ax) (hb : Ok n bv bx) (hne : ¬ av = bv) : Calls Tryz.prog 92 #[.agg #[.int .i64 n, .int .u64 (U av), .int .u64 (U ax)], .agg #[.int .i64 n, .int .u64 (U bv), .int .u64 (U bx)]] w fun e w' => e = .returned (.agg #[.int .i64 1, .int .u64 (U (tr false).v), .int .u64 (U (tr false).x)]) ∧ Below w.heap.size w w' := by
  have h1 : (av == bv) = false := by simpa using hne
  have h2 : ¬ av = bv := hne
  have h3 : ¬ U av = U bv := fun e => hne (U_inj.1 e)
  have va := Lib.hid fun w => alike_ok n av ax bv bx w ha hb
  have vt := Lib.hid fun w => truth_ok false w
  clear ha hb hne
  go_enter Tryz.func92, Tryz.ntmps92
  go_wp2_with fail
  have C := tb_new (w := w) ⟨n, av, ax⟩ ⟨n, bv, bx⟩
  generalize (((w.alloc (Obj.cells #[Value.int IntKind.i64 n, Value.int IntKind.u64 (U av), Value.int IntKind.u64 (U ax)] 24)).alloc (Obj.cells #[Value.int IntKind.i64 n, Value.int IntKind.u64 (U bv), Value.int IntKind.u64 (U bx)] 24)).alloc (Obj.cells #[Value.int IntKind.i64 0, Value.int IntKind.u64 0, Value.int IntKind.u64 0] 24)) = W at C ⊢
  obtain ⟨⟨a0, a1, a2, af⟩, ⟨b0, b1, b2, bf⟩, ⟨p0, p1, p2, pf⟩, lo⟩ := id C
  go_wp2_with fail
  refine (va.out _).mono ?_
  rintro e W1 ⟨rfl, hb⟩
  replace C := C.below hb
  clear a0 a1 a2 af b0 b1 b2 bf p0 p1 p2 pf lo hb
  obtain ⟨⟨a0, a1, a2, af⟩, ⟨b0, b1, b2, bf⟩, ⟨p0, p1, p2, pf⟩, lo⟩ := id C
  go_wp2_with fail
  refine (vt.out _).mono ?_
  rintro e W2 ⟨rfl, hb⟩
  replace C := C.below hb
  clear a0 a1 a2 af b0 b1 b2 bf p0 p1 p2 pf lo hb
  obtain ⟨⟨a0, a1, a2, af⟩, ⟨b0, b1, b2, bf⟩, ⟨p0, p1, p2, pf⟩, lo⟩ := id C
  go_wp2_with fail
  replace C := C.put 1 (U (tr false).v) (U (tr false).x)
  clear a0 a1 a2 af b0 b1 b2 bf p0 p1 p2 pf lo
  obtain ⟨⟨a0, a1, a2, af⟩, ⟨b0, b1, b2, bf⟩, ⟨p0, p1, p2, pf⟩, lo⟩ := C
  exact bodyPost_ret (v := .agg #[.int .i64 1, .int .u64 (U (tr false).v), .int .u64 (U (tr false).x)]) (by simp [results, Tryz.results92, go_sem, p0, p1, p2]) rfl ⟨rfl, lo⟩
set_option maxRecDepth 100000 in
set_option maxHeartbeats 1000000 in
theorem ceq_n2 (n : Nat) (av ax bx : BitVec 64) (w : World) (ha : Ok n av ax) (hb : Ok n av bx) (hne : ¬ ax = bx) : Calls Tryz.prog 92 #[.agg #[.int .i64 n, .int .u64 (U av), .int .u64 (U ax)], .agg #[.int .i64 n, .int .u64 (U av), .int .u64 (U bx)]] w fun e w' => e = .returned (.agg #[.int .i64 1, .int .u64 (U (tr false).v), .int .u64 (U (tr false).x)]) ∧ Below w.heap.size w w' := by
  have h1 : (ax == bx) = false := by simpa using hne
  have h2 : ¬ ax = bx := hne
  have h3 : ¬ U ax = U bx := fun e => hne (U_inj.1 e)
  have va := Lib.hid fun w => alike_ok n av ax av bx w ha hb
  have vt := Lib.hid fun w => truth_ok false w
  clear ha hb hne
  go_enter Tryz.func92, Tryz.ntmps92
  go_wp2_with fail
  have C := tb_new (w := w) ⟨n, av, ax⟩ ⟨n, av, bx⟩
  generalize (((w.alloc (Obj.cells #[Value.int IntKind.i64 n, Value.int IntKind.u64 (U av), Value.int IntKind.u64 (U ax)] 24)).alloc (Obj.cells #[Value.int IntKind.i64 n, Value.int IntKind.u64 (U av), Value.int IntKind.u64 (U bx)] 24)).alloc (Obj.cells #[Value.int IntKind.i64 0, Value.int IntKind.u64 0, Value.int IntKind.u64 0] 24)) = W at C ⊢
  obtain ⟨⟨a0, a1, a2, af⟩, ⟨b0, b1, b2, bf⟩, ⟨p0, p1, p2, pf⟩, lo⟩ := id C
  go_wp2_with fail
  refine (va.out _).mono ?_
  rintro e W1 ⟨rfl, hb⟩
  replace C := C.below hb
  clear a0 a1 a2 af b0 b1 b2 bf p0 p1 p2 pf lo hb
  obtain ⟨⟨a0, a1, a2, af⟩, ⟨b0, b1, b2, bf⟩, ⟨p0, p1, p2, pf⟩, lo⟩ := id C
  go_wp2_with fail
  refine (vt.out _).mono ?_
  rintro e W2 ⟨rfl, hb⟩
  replace C := C.below hb
  clear a0 a1 a2 af b0 b1 b2 bf p0 p1 p2 pf lo hb
  obtain ⟨⟨a0, a1, a2, af⟩, ⟨b0, b1, b2, bf⟩, ⟨p0, p1, p2, pf⟩, lo⟩ := id C
  go_wp2_with fail
  replace C := C.put 1 (U (tr false).v) (U (tr false).x)
  clear a0 a1 a2 af b0 b1 b2 bf p0 p1 p2 pf lo
  obtain ⟨⟨a0, a1, a2, af⟩, ⟨b0, b1, b2, bf⟩, ⟨p0, p1, p2, pf⟩, lo⟩ := C
  exact bodyPost_ret (v := .agg #[.int .i64 1, .int .u64 (U (tr false).v), .int .u64 (U (tr false).x)]) (by simp [results, Tryz.results92, go_sem, p0, p1, p2]) rfl ⟨rfl, lo⟩
theorem ceq_ok (n : Nat) (a b : Vx) (w : World) (ha : a.ok n) (hb : b.ok n) : Calls Tryz.prog 92 #[.agg #[.int .i64 n, .int .u64 (U a.v), .int .u64 (U a.x)], .agg #[.int .i64 n, .int .u64 (U b.v), .int .u64 (U b.x)]] w fun e w' => e = .returned (.agg #[.int .i64 1, .int .u64 (U (vceq a b).v), .int .u64 (U (vceq a b).x)]) ∧ Below w.heap.size w w' := by
  obtain ⟨av, ax⟩ := a
  obtain ⟨bv, bx⟩ := b
  by_cases h1 : av = bv
  · subst h1
    by_cases h2 : ax = bx
    · subst h2
      have e : vceq ⟨av, ax⟩ ⟨av, ax⟩ = tr true := by unfold vceq; simp
      rw [e]; exact ceq_yes n av ax w ha
    · have e : vceq ⟨av, ax⟩ ⟨av, bx⟩ = tr false := by unfold vceq; rw [beq_eq_false_iff_ne.2 h2, Bool.and_false]
      rw [e]; exact ceq_n2 n av ax bx w ha hb h2
  · have e : vceq ⟨av, ax⟩ ⟨bv, bx⟩ = tr false := by unfold vceq; rw [beq_eq_false_iff_ne.2 h1, Bool.false_and]
    rw [e]; exact ceq_n1 n av ax bv bx w ha hb h1
theorem eq_any (a b : Rb) (w : World) : Calls Tryz.prog 57 #[.agg #[.int .i64 a.W, .int .u64 (U a.v), .int .u64 (U a.x)], .agg #[.int .i64 b.W, .int .u64 (U b.v), .int .u64 (U b.x)]] w fun e w' => e = .returned (.agg #[.int .i64 (cmR veq a b).W, .int .u64 (U (cmR veq a b).v), .int .u64 (U (cmR veq a b).x)]) ∧ Below w.heap.size w w' := by
  cases h : alikeB a b
  · have e : cmR veq a b = ZR := by unfold cmR; rw [h]; rfl
    rw [e]; exact eq_ill a b w h
  · have e : cmR veq a b = ⟨1, (veq ⟨a.v, a.x⟩ ⟨b.v, b.x⟩).v, (veq ⟨a.v, a.x⟩ ⟨b.v, b.x⟩).x⟩ := by unfold cmR; rw [h]; rfl
    rw [e]
    obtain ⟨n, en, em, oa, ob⟩ := alike_of h
    obtain ⟨aW, av, ax⟩ := a
    obtain ⟨bW, bv, bx⟩ := b
    obtain rfl : aW = n := en
    obtain rfl : bW = n := em
    exact eq_ok n ⟨av, ax⟩ ⟨bv, bx⟩ w oa ob
theorem ceq_any (a b : Rb) (w : World) : Calls Tryz.prog 92 #[.agg #[.int .i64 a.W, .int .u64 (U a.v), .int .u64 (U a.x)], .agg #[.int .i64 b.W, .int .u64 (U b.v), .int .u64 (U b.x)]] w fun e w' => e = .returned (.agg #[.int .i64 (cmR vceq a b).W, .int .u64 (U (cmR vceq a b).v), .int .u64 (U (cmR vceq a b).x)]) ∧ Below w.heap.size w w' := by
  cases h : alikeB a b
  · have e : cmR vceq a b = ZR := by unfold cmR; rw [h]; rfl
    rw [e]; exact ceq_ill a b w h
  · have e : cmR vceq a b = ⟨1, (vceq ⟨a.v, a.x⟩ ⟨b.v, b.x⟩).v, (vceq ⟨a.v, a.x⟩ ⟨b.v, b.x⟩).x⟩ := by unfold cmR; rw [h]; rfl
    rw [e]
    obtain ⟨n, en, em, oa, ob⟩ := alike_of h
    obtain ⟨aW, av, ax⟩ := a
    obtain ⟨bW, bv, bx⟩ := b
    obtain rfl : aW = n := en
    obtain rfl : bW = n := em
    exact ceq_ok n ⟨av, ax⟩ ⟨bv, bx⟩ w oa ob
theorem lt_any (a b : Rb) (s : Bool) (w : World) : Calls Tryz.prog 59 #[.agg #[.int .i64 a.W, .int .u64 (U a.v), .int .u64 (U a.x)], .agg #[.int .i64 b.W, .int .u64 (U b.v), .int .u64 (U b.x)], .bool s] w fun e w' => e = .returned (.agg #[.int .i64 (cmR (vlt a.W.toNat s) a b).W, .int .u64 (U (cmR (vlt a.W.toNat s) a b).v), .int .u64 (U (cmR (vlt a.W.toNat s) a b).x)]) ∧ Below w.heap.size w w' := by
  cases h : alikeB a b
  · have e : cmR (vlt a.W.toNat s) a b = ZR := by unfold cmR; rw [h]; rfl
    rw [e]; exact lt_ill a b s w h
  · have e : cmR (vlt a.W.toNat s) a b = ⟨1, ((vlt a.W.toNat s) ⟨a.v, a.x⟩ ⟨b.v, b.x⟩).v, ((vlt a.W.toNat s) ⟨a.v, a.x⟩ ⟨b.v, b.x⟩).x⟩ := by unfold cmR; rw [h]; rfl
    rw [e]
    obtain ⟨n, en, em, oa, ob⟩ := alike_of h
    obtain ⟨aW, av, ax⟩ := a
    obtain ⟨bW, bv, bx⟩ := b
    obtain rfl : aW = n := en
    obtain rfl : bW = n := em
    exact lt_ok n ⟨av, ax⟩ ⟨bv, bx⟩ s w oa ob
set_option maxRecDepth 100000 in
set_option maxHeartbeats 1000000 in
theorem ne_any (a b : Rb) (w : World) : Calls Tryz.prog 58 #[.agg #[.int .i64 a.W, .int .u64 (U a.v), .int .u64 (U a.x)], .agg #[.int .i64 b.W, .int .u64 (U b.v), .int .u64 (U b.x)]] w fun e w' => e = .returned (.agg #[.int .i64 (lnotR (cmR veq a b)).W, .int .u64 (U (lnotR (cmR veq a b)).v), .int .u64 (U (lnotR (cmR veq a b)).x)]) ∧ Below w.heap.size w w' := by
  obtain ⟨aW, av, ax⟩ := a
  obtain ⟨bW, bv, bx⟩ := b
  have va := Lib.hid fun w => eq_any ⟨aW, av, ax⟩ ⟨bW, bv, bx⟩ w
  generalize cmR _ _ _ = P at va ⊢
  have vb := Lib.hid fun w => lnot_any P w
  generalize lnotR P = Q at vb ⊢
  show Calls Tryz.prog 58 #[.agg #[.int .i64 aW, .int .u64 (U av), .int .u64 (U ax)], .agg #[.int .i64 bW, .int .u64 (U bv), .int .u64 (U bx)]] w _
  go_enter Tryz.func58, Tryz.ntmps58
  go_wp2_with fail
  have C := tb_new (w := w) ⟨aW, av, ax⟩ ⟨bW, bv, bx⟩
  generalize (((w.alloc (Obj.cells #[Value.int IntKind.i64 aW, Value.int IntKind.u64 (U av), Value.int IntKind.u64 (U ax)] 24)).alloc (Obj.cells #[Value.int IntKind.i64 bW, Value.int IntKind.u64 (U bv), Value.int IntKind.u64 (U bx)] 24)).alloc (Obj.cells #[Value.int IntKind.i64 0, Value.int IntKind.u64 0, Value.int IntKind.u64 0] 24)) = W at C ⊢
  obtain ⟨⟨a0, a1, a2, af⟩, ⟨b0, b1, b2, bf⟩, ⟨p0, p1, p2, pf⟩, lo⟩ := id C
  go_wp2_with fail
  refine (va.out _).mono ?_
  rintro e W1 ⟨rfl, hb⟩
  replace C := C.below hb
  clear a0 a1 a2 af b0 b1 b2 bf p0 p1 p2 pf lo hb
  obtain ⟨⟨a0, a1, a2, af⟩, ⟨b0, b1, b2, bf⟩, ⟨p0, p1, p2, pf⟩, lo⟩ := id C
  go_wp2_with fail
  refine (vb.out _).mono ?_
  rintro e W2 ⟨rfl, hb⟩
  replace C := C.below hb
  clear a0 a1 a2 af b0 b1 b2 bf p0 p1 p2 pf lo hb
  obtain ⟨⟨a0, a1, a2, af⟩, ⟨b0, b1, b2, bf⟩, ⟨p0, p1, p2, pf⟩, lo⟩ := id C
  go_wp2_with fail
  replace C := C.put Q.W (U Q.v) (U Q.x)
  clear a0 a1 a2 af b0 b1 b2 bf p0 p1 p2 pf lo
  obtain ⟨⟨a0, a1, a2, af⟩, ⟨b0, b1, b2, bf⟩, ⟨p0, p1, p2, pf⟩, lo⟩ := C
  exact bodyPost_ret (v := .agg #[.int .i64 Q.W, .int .u64 (U Q.v), .int .u64 (U Q.x)]) (by simp [results, Tryz.results58, go_sem, p0, p1, p2]) rfl ⟨rfl, lo⟩
set_option maxRecDepth 100000 in
set_option maxHeartbeats 1000000 in
theorem cne_any (a b : Rb) (w : World) : Calls Tryz.prog 93 #[.agg #[.int .i64 a.W, .int .u64 (U a.v), .int .u64 (U a.x)], .agg #[.int .i64 b.W, .int .u64 (U b.v), .int .u64 (U b.x)]] w fun e w' => e = .returned (.agg #[.int .i64 (lnotR (cmR vceq a b)).W, .int .u64 (U (lnotR (cmR vceq a b)).v), .int .u64 (U (lnotR (cmR vceq a b)).x)]) ∧ Below w.heap.size w w' := by
  obtain ⟨aW, av, ax⟩ := a
  obtain ⟨bW, bv, bx⟩ := b
  have va := Lib.hid fun w => ceq_any ⟨aW, av, ax⟩ ⟨bW, bv, bx⟩ w
  generalize cmR _ _ _ = P at va ⊢
  have vb := Lib.hid fun w => lnot_any P w
  generalize lnotR P = Q at vb ⊢
  show Calls Tryz.prog 93 #[.agg #[.int .i64 aW, .int .u64 (U av), .int .u64 (U ax)], .agg #[.int .i64 bW, .int .u64 (U bv), .int .u64 (U bx)]] w _
  go_enter Tryz.func93, Tryz.ntmps93
  go_wp2_with fail
  have C := tb_new (w := w) ⟨aW, av, ax⟩ ⟨bW, bv, bx⟩
  generalize (((w.alloc (Obj.cells #[Value.int IntKind.i64 aW, Value.int IntKind.u64 (U av), Value.int IntKind.u64 (U ax)] 24)).alloc (Obj.cells #[Value.int IntKind.i64 bW, Value.int IntKind.u64 (U bv), Value.int IntKind.u64 (U bx)] 24)).alloc (Obj.cells #[Value.int IntKind.i64 0, Value.int IntKind.u64 0, Value.int IntKind.u64 0] 24)) = W at C ⊢
  obtain ⟨⟨a0, a1, a2, af⟩, ⟨b0, b1, b2, bf⟩, ⟨p0, p1, p2, pf⟩, lo⟩ := id C
  go_wp2_with fail
  refine (va.out _).mono ?_
  rintro e W1 ⟨rfl, hb⟩
  replace C := C.below hb
  clear a0 a1 a2 af b0 b1 b2 bf p0 p1 p2 pf lo hb
  obtain ⟨⟨a0, a1, a2, af⟩, ⟨b0, b1, b2, bf⟩, ⟨p0, p1, p2, pf⟩, lo⟩ := id C
  go_wp2_with fail
  refine (vb.out _).mono ?_
  rintro e W2 ⟨rfl, hb⟩
  replace C := C.below hb
  clear a0 a1 a2 af b0 b1 b2 bf p0 p1 p2 pf lo hb
  obtain ⟨⟨a0, a1, a2, af⟩, ⟨b0, b1, b2, bf⟩, ⟨p0, p1, p2, pf⟩, lo⟩ := id C
  go_wp2_with fail
  replace C := C.put Q.W (U Q.v) (U Q.x)
  clear a0 a1 a2 af b0 b1 b2 bf p0 p1 p2 pf lo
  obtain ⟨⟨a0, a1, a2, af⟩, ⟨b0, b1, b2, bf⟩, ⟨p0, p1, p2, pf⟩, lo⟩ := C
  exact bodyPost_ret (v := .agg #[.int .i64 Q.W, .int .u64 (U Q.v), .int .u64 (U Q.x)]) (by simp [results, Tryz.results93, go_sem, p0, p1, p2]) rfl ⟨rfl, lo⟩
set_option maxRecDepth 100000 in
set_option maxHeartbeats 1000000 in
theorem le_any (a b : Rb) (s : Bool) (w : World) : Calls Tryz.prog 60 #[.agg #[.int .i64 a.W, .int .u64 (U a.v), .int .u64 (U a.x)], .agg #[.int .i64 b.W, .int .u64 (U b.v), .int .u64 (U b.x)], .bool s] w fun e w' => e = .returned (.agg #[.int .i64 (lnotR (cmR (vlt b.W.toNat s) b a)).W, .int .u64 (U (lnotR (cmR (vlt b.W.toNat s) b a)).v), .int .u64 (U (lnotR (cmR (vlt b.W.toNat s) b a)).x)]) ∧ Below w.heap.size w w' := by
  obtain ⟨aW, av, ax⟩ := a
  obtain ⟨bW, bv, bx⟩ := b
  have va := Lib.hid fun w => lt_any ⟨bW, bv, bx⟩ ⟨aW, av, ax⟩ s w
  generalize cmR _ _ _ = P at va ⊢
  have vb := Lib.hid fun w => lnot_any P w
  generalize lnotR P = Q at vb ⊢
  show Calls Tryz.prog 60 #[.agg #[.int .i64 aW, .int .u64 (U av), .int .u64 (U ax)], .agg #[.int .i64 bW, .int .u64 (U bv), .int .u64 (U bx)], .bool s] w _
  go_enter Tryz.func60, Tryz.ntmps60
  go_wp2_with fail
  have C := tb_new (w := w) ⟨aW, av, ax⟩ ⟨bW, bv, bx⟩
  generalize (((w.alloc (Obj.cells #[Value.int IntKind.i64 aW, Value.int IntKind.u64 (U av), Value.int IntKind.u64 (U ax)] 24)).alloc (Obj.cells #[Value.int IntKind.i64 bW, Value.int IntKind.u64 (U bv), Value.int IntKind.u64 (U bx)] 24)).alloc (Obj.cells #[Value.int IntKind.i64 0, Value.int IntKind.u64 0, Value.int IntKind.u64 0] 24)) = W at C ⊢
  obtain ⟨⟨a0, a1, a2, af⟩, ⟨b0, b1, b2, bf⟩, ⟨p0, p1, p2, pf⟩, lo⟩ := id C
  go_wp2_with fail
  refine (va.out _).mono ?_
  rintro e W1 ⟨rfl, hb⟩
  replace C := C.below hb
  clear a0 a1 a2 af b0 b1 b2 bf p0 p1 p2 pf lo hb
  obtain ⟨⟨a0, a1, a2, af⟩, ⟨b0, b1, b2, bf⟩, ⟨p0, p1, p2, pf⟩, lo⟩ := id C
  go_wp2_with fail
  refine (vb.out _).mono ?_
  rintro e W2 ⟨rfl, hb⟩
  replace C := C.below hb
  clear a0 a1 a2 af b0 b1 b2 bf p0 p1 p2 pf lo hb
  obtain ⟨⟨a0, a1, a2, af⟩, ⟨b0, b1, b2, bf⟩, ⟨p0, p1, p2, pf⟩, lo⟩ := id C
  go_wp2_with fail
  replace C := C.put Q.W (U Q.v) (U Q.x)
  clear a0 a1 a2 af b0 b1 b2 bf p0 p1 p2 pf lo
  obtain ⟨⟨a0, a1, a2, af⟩, ⟨b0, b1, b2, bf⟩, ⟨p0, p1, p2, pf⟩, lo⟩ := C
  exact bodyPost_ret (v := .agg #[.int .i64 Q.W, .int .u64 (U Q.v), .int .u64 (U Q.x)]) (by simp [results, Tryz.results60, go_sem, p0, p1, p2]) rfl ⟨rfl, lo⟩
end Go.Proofs.YtodldcdfdjooaaaGreatDoor
namespace Go.Proofs.YtodldcdfdjooaaaGreatDoor
open Go Go.RowKit Go.Sort
set_option linter.unusedVariables false
def oneB (c : Nat) : UInt8 := if c = 116 then 49 else if c = 102 then 48 else 120
def oppN (c : Nat) : Nat := if c = 116 then 102 else if c = 102 then 116 else 117
def truN (b : Bool) : Nat := if b then 116 else 102
theorem row8_one {w : World} {bl : Nat} {c : UInt8} (h : w.cell? ⟨bl, 0, none⟩ = some (.int .u8 (c.toNat : Int))) : Row8 w (.slice (some ⟨bl, 0, none⟩) 1 1) [c] :=
  ⟨⟨some ⟨bl, 0, none⟩, 1, rfl, .inr ⟨bl, 0, rfl, fun q hq => by
    have : q = 0 := by simpa using hq
    subst this; exact h⟩⟩, fun a n c e => by injection e; omega⟩
set_option maxRecDepth 100000 in
set_option maxHeartbeats 800000 in
theorem one_is (c : Nat) (hc : c = 116 ∨ c = 102 ∨ c = 117) (w : World) : Calls Tryz.prog 73 #[.int .u8 (c : Int)] w fun e w' => ∃ v, e = .returned v ∧ Row8 w' v [oneB c] ∧ Below w.heap.size w w' := by
  rcases hc with rfl | rfl | rfl
  · show Calls Tryz.prog 73 #[.int .u8 116] w _
    go_enter Tryz.func73, Tryz.ntmps73
    go_wp2_with fail
    go_ret
    exact ⟨_, rfl, row8_one (by go_simp; rfl), (Below.refl _ _).alloc (Nat.le_refl _) _⟩
  · show Calls Tryz.prog 73 #[.int .u8 102] w _
    go_enter Tryz.func73, Tryz.ntmps73
    go_wp2_with fail
    go_ret
    exact ⟨_, rfl, row8_one (by go_simp; rfl), (Below.refl _ _).alloc (Nat.le_refl _) _⟩
  · show Calls Tryz.prog 73 #[.int .u8 117] w _
    go_enter Tryz.func73, Tryz.ntmps73
    go_wp2_with fail
    go_ret
    exact ⟨_, rfl, row8_one (by go_simp; rfl), (Below.refl _ _).alloc (Nat.le_refl _) _⟩
set_option maxRecDepth 100000 in
set_option maxHeartbeats 800000 in
theorem opp_is (c : Nat) (hc : c = 116 ∨ c = 102 ∨ c = 117) (w : World) : Calls Tryz.prog 74 #[.int .u8 (c : Int)] w fun e w' => e = .returned (.int .u8 (oppN c : Nat)) ∧ w = w' := by
  rcases hc with rfl | rfl | rfl
  · show Calls Tryz.prog 74 #[.int .u8 116] w _
    go_enter Tryz.func74, Tryz.ntmps74
    go_wp2_with fail
    go_ret
    exact ⟨rfl, rfl⟩
  · show Calls Tryz.prog 74 #[.int .u8 102] w _
    go_enter Tryz.func74, Tryz.ntmps74
    go_wp2_with fail
    go_ret
    exact ⟨rfl, rfl⟩
  · show Calls Tryz.prog 74 #[.int .u8 117] w _
    go_enter Tryz.func74, Tryz.ntmps74
    go_wp2_with fail
    go_ret
    exact ⟨rfl, rfl⟩
theorem truthOf_is (b : Bool) (w : World) : Calls Tryz.prog 88 #[.bool b] w fun e w' => e = .returned (.int .u8 (truN b : Nat)) ∧ w = w' := by
  cases b
  · go_enter Tryz.func88, Tryz.ntmps88
    go_wp2_with fail
    go_ret
    exact ⟨rfl, rfl⟩
  · go_enter Tryz.func88, Tryz.ntmps88
    go_wp2_with fail
    go_ret
    exact ⟨rfl, rfl⟩
theorem bytes_beq (l m : List UInt8) : (l == m) = decide (l = m) := by
  rw [Bool.eq_iff_iff]; simp
theorem row_nth0 {w : World} {a : Option Addr} {m cap : Nat} {l : List UInt8} (h : Row8 w (.slice a m cap) l) {k : Nat} (hk : k < l.length) : ∃ bl off, a = some ⟨bl, off, none⟩ ∧ m = l.length ∧ ∀ q (hq : q < l.length), w.cell? ⟨bl, off + q, none⟩ = some (.int .u8 (l[q].toNat : Int)) := by
  obtain ⟨a', c, he, h0 | ⟨b, o, ha, hc⟩⟩ := h.sh
  · omega
  · injection he with e1 e2 e3
    exact ⟨b, o, e1.trans ha, e2, hc⟩
theorem Row8.all {w : World} {a : Option Addr} {cap : Nat} {l : List UInt8} (h1 : 1 ≤ l.length) (h : Row8 w (.slice a l.length cap) l) : ∃ bl off, a = some ⟨bl, off, none⟩ ∧ ∀ j (hj : j < l.length), w.cell? ((⟨bl, off, none⟩ : Addr).add j) = some (.int .u8 (l[j].toNat : Int)) := by
  obtain ⟨bl, off, rfl, _, hc⟩ := row_nth0 h (k := 0) (by omega)
  refine ⟨bl, off, rfl, fun j hj => ?_⟩
  have := hc j hj
  by_cases h0 : j = 0
  · subst h0; first | (simp [Addr.add]; done) | simpa [Addr.add] using this
  · first | (simp [Addr.add, h0]; done) | simpa [Addr.add, h0] using this
set_option maxRecDepth 100000 in
set_option maxHeartbeats 800000 in
theorem same_is (v u : Value) (l m : List UInt8) (hl : 1 ≤ l.length) (hm : 1 ≤ m.length) (w : World) (h : Row8 w v l) (h' : Row8 w u m) : Calls Tryz.prog 89 #[v, u] w fun e w' => e = .returned (.bool (decide (l = m))) ∧ w = w' := by
  obtain ⟨a, cap, rfl, -⟩ := id h.sh
  obtain ⟨b, capb, rfl, -⟩ := id h'.sh
  obtain ⟨bl, off, rfl, hc⟩ := h.all hl
  obtain ⟨bm, ofm, rfl, hcm⟩ := h'.all hm
  have k1 := run_convert_bytes_back (P := Tryz.prog) w 30 9 5 ⟨bl, off, none⟩ cap l Tryz.underlying30 Tryz.underlying5 Tryz.underlying9 hc
  have k2 := run_convert_bytes_back (P := Tryz.prog) w 30 9 5 ⟨bm, ofm, none⟩ capb m Tryz.underlying30 Tryz.underlying5 Tryz.underlying9 hcm
  have HB := Lib.hid (bytes_beq l m)
  clear h h' hc hcm
  go_enter Tryz.func89, Tryz.ntmps89
  go_wp2_with fail
  go_ret
  exact ⟨congrArg (fun b => Ending.returned (.bool b)) HB.out, rfl⟩
/-- whether a state is known -/
def kn1 (x : UInt8) : Bool := x == 48 || x == 49
def cmpF (o : Nat) (x y : UInt8) : Nat := if kn1 x && kn1 y then (if x = y then o else 102) else (if o = 116 then 117 else o)
/-- how the first k states of two lists compare -/
def cmpK (l m : List UInt8) : Nat → Nat
  | 0 => 116
  | k + 1 => cmpF (cmpK l m k) (l.getD k 0) (m.getD k 0)
theorem cmpF_in {o : Nat} (h : o = 116 ∨ o = 102 ∨ o = 117) (x y : UInt8) : cmpF o x y = 116 ∨ cmpF o x y = 102 ∨ cmpF o x y = 117 := by
  unfold cmpF; split <;> split <;> simp_all
theorem cmpK_in (l m : List UInt8) : ∀ k, cmpK l m k = 116 ∨ cmpK l m k = 102 ∨ cmpK l m k = 117
  | 0 => .inl rfl
  | k + 1 => cmpF_in (cmpK_in l m k) _ _
/-- one state of a slice, as a slice -/
theorem row8_sub {w : World} {bl off cap : Nat} {x : UInt8} (hcap : 1 ≤ cap) (h : w.cell? ⟨bl, off, none⟩ = some (.int .u8 (x.toNat : Int))) : Row8 w (.slice (some ⟨bl, off, none⟩) 1 cap) [x] :=
  ⟨⟨some ⟨bl, off, none⟩, cap, rfl, .inr ⟨bl, off, rfl, fun q hq => by
    have : q = 0 := by simpa using hq
    subst this; exact h⟩⟩, fun a n c e => by injection e; omega⟩
theorem known_sub {w : World} {bl off cap : Nat} {x : UInt8} (hcap : 1 ≤ cap) (t : Bool) (ht : kn1 x = t) (h : w.cell? ⟨bl, off, none⟩ = some (.int .u8 (x.toNat : Int))) : Calls Tryz.prog 90 #[.slice (some ⟨bl, off, none⟩) 1 cap] w fun e w' => e = .returned (.bool t) ∧ w = w' := by
  have := refKnown_any (.slice (some ⟨bl, off, none⟩) 1 cap) [x] (by simp) w (row8_sub hcap h)
  rw [← ht]
  have e : knownL [x] = kn1 x := by unfold knownL kn1; simp
  rwa [e] at this
end Go.Proofs.YtodldcdfdjooaaaGreatDoor
namespace Go.Proofs.YtodldcdfdjooaaaGreatDoor
open Go Go.RowKit Go.Sort
set_option linter.unusedVariables false
theorem Row8.le {w : World} {a : Option Addr} {n cap : Nat} {l : List UInt8} (h : Row8 w (.slice a n cap) l) : n ≤ cap := h.cp _ _ _ rfl
theorem cmpF_ux {o : Nat} {x y : UInt8} (h : kn1 x = false) : cmpF o x y = if o = 116 then 117 else o := by unfold cmpF; rw [h]; rfl
theorem cmpF_uy {o : Nat} {x y : UInt8} (h : kn1 y = false) : cmpF o x y = if o = 116 then 117 else o := by unfold cmpF; rw [h, Bool.and_false]; rfl
theorem cmpF_eq {o : Nat} {x y : UInt8} (h : kn1 x = true) (k : kn1 y = true) (e : x = y) : cmpF o x y = o := by unfold cmpF; rw [h, k, Bool.and_self, if_pos rfl, if_pos e]
theorem cmpF_ne {o : Nat} {x y : UInt8} (h : kn1 x = true) (k : kn1 y = true) (e : x ≠ y) : cmpF o x y = 102 := by unfold cmpF; rw [h, k, Bool.and_self, if_pos rfl, if_neg e]
set_option maxRecDepth 100000 in
set_option maxHeartbeats 4000000 in
theorem compared_is (v u : Value) (l m : List UInt8) (hlm : l.length = m.length) (hl : l.length ≤ 1000000) (w : World) (h : Row8 w v l) (h' : Row8 w u m) :
    Calls Tryz.prog 87 #[v, u] w fun e w' => e = .returned (.int .u8 (cmpK l m l.length : Nat)) ∧ Below w.heap.size w w' := by
  obtain ⟨a, cap, rfl, h0⟩ := id h.sh
  obtain ⟨b, capb, rfl, h0b⟩ := id h'.sh
  have hca := h.le
  have hcb := h'.le
  have H0 := Lib.hid h0
  have H0b := Lib.hid h0b
  clear h h0 h' h0b
  generalize hn : l.length = n at hl hlm hca ⊢
  have HM := Lib.hid hlm.symm
  rw [← hlm] at hcb ⊢
  have HN := Lib.hid hn
  clear hn hlm
  go_enter Tryz.func87, Tryz.ntmps87
  go_wp2_with fail
  go_loopw [5, 9] (fun s5 s9 wr => ∃ k : Nat, k ≤ n ∧ s9 = .int .i64 k ∧ s5 = .int .u8 (cmpK l m k : Nat) ∧ Below w.heap.size w wr) (fun _ s9 _ => n - (intOf s9).toNat)
  case atStart => exact ⟨0, Nat.zero_le _, rfl, rfl, Below.refl _ _⟩
  case round =>
    obtain ⟨k, hk, rfl, rfl, hlo⟩ := hrel
    by_cases hlt : k < n
    · have hkl : k < l.length := by rw [HN.out]; exact hlt
      have hkm : k < m.length := by rw [HM.out]; exact hlt
      obtain ⟨bl, off, rfl, hc⟩ := Row8.nth (cap := cap) (n := n) H0.out hkl
      obtain ⟨bm, ofm, rfl, hcm⟩ := Row8.nth (cap := capb) (n := n) H0b.out hkm
      have pc := ((bcell hlo).1 _ _ (World.block_lt_of_cell? w _ hc)).trans hc
      have pcm := ((bcell hlo).1 _ _ (World.block_lt_of_cell? w _ hcm)).trans hcm
      have HC := Lib.hid (show cmpK l m (k + 1) = cmpF (cmpK l m k) l[k] m[k] from by rw [← getD_at hkl, ← getD_at hkm]; rfl)
      have hk0 : (0 : Int) ≤ (k : Int) := by omega
      have hk1 : (k : Int) < (n : Int) := by omega
      have hk2 : (k : Int) ≤ (k : Int) + 1 := by omega
      have hk3 : (k : Int) + 1 ≤ (cap : Int) := by omega
      have hk4 : (k : Int) + 1 ≤ (capb : Int) := by omega
      clear hc hcm
      generalize l[k] = x at pc HC
      generalize m[k] = y at pcm HC
      generalize cmpK l m k = o at HC ⊢
      cases hx : kn1 x
      · have HX := Lib.hid hx
        rw [cmpF_ux hx] at HC
        have cx := Lib.hid fun (c : Nat) (hc : 1 ≤ c) => known_sub hc false hx pc
        clear hx
        by_cases h16 : o = 116
        · subst h16
          rw [if_pos rfl] at HC
          go_wp2_with fail
          refine (cx.out _ (by omega)).mono ?_
          rintro e w1 ⟨rfl, rfl⟩
          go_wp2_with fail
          go_roundw
          case rel => exact ⟨k + 1, by omega, by go_num, by rw [HC.out]; rfl, hlo⟩
          case measure => simp [intOf]; omega
        · rw [if_neg h16] at HC
          have t16 : ((o : Int) == 116) = false := beq_eq_false_iff_ne.2 (fun e => h16 (by omega))
          clear h16
          go_wp2_with fail
          refine (cx.out _ (by omega)).mono ?_
          rintro e w1 ⟨rfl, rfl⟩
          go_wp2_with fail
          go_roundw
          case rel => exact ⟨k + 1, by omega, by go_num, by rw [HC.out], hlo⟩
          case measure => simp [intOf]; omega
      have cx := Lib.hid fun (c : Nat) (hc : 1 ≤ c) => known_sub hc true hx pc
      cases hy : kn1 y
      · rw [cmpF_uy hy] at HC
        have cy := Lib.hid fun (c : Nat) (hc : 1 ≤ c) => known_sub hc false hy pcm
        clear hx hy
        by_cases h16 : o = 116
        · subst h16
          rw [if_pos rfl] at HC
          go_wp2_with fail
          refine (cx.out _ (by omega)).mono ?_
          rintro e w1 ⟨rfl, rfl⟩
          go_wp2_with fail
          refine (cy.out _ (by omega)).mono ?_
          rintro e w1 ⟨rfl, rfl⟩
          go_wp2_with fail
          go_roundw
          case rel => exact ⟨k + 1, by omega, by go_num, by rw [HC.out]; rfl, hlo⟩
          case measure => simp [intOf]; omega
        · rw [if_neg h16] at HC
          have t16 : ((o : Int) == 116) = false := beq_eq_false_iff_ne.2 (fun e => h16 (by omega))
          clear h16
          go_wp2_with fail
          refine (cx.out _ (by omega)).mono ?_
          rintro e w1 ⟨rfl, rfl⟩
          go_wp2_with fail
          refine (cy.out _ (by omega)).mono ?_
          rintro e w1 ⟨rfl, rfl⟩
          go_wp2_with fail
          go_roundw
          case rel => exact ⟨k + 1, by omega, by go_num, by rw [HC.out], hlo⟩
          case measure => simp [intOf]; omega
      have cy := Lib.hid fun (c : Nat) (hc : 1 ≤ c) => known_sub hc true hy pcm
      obtain ⟨t, ht⟩ : ∃ t, ((x.toNat : Int) != (y.toNat : Int)) = t := ⟨_, rfl⟩
      have HR : Hid (cmpK l m (k + 1) = if t then 102 else o) := by
        by_cases e : x = y
        · rw [cmpF_eq hx hy e] at HC
          have : t = false := by rw [← ht, e]; simp
          rw [this]; exact HC
        · rw [cmpF_ne hx hy e] at HC
          have : t = true := by rw [← ht]; exact bne_iff_ne.2 (fun h => e (UInt8.toNat_inj.1 (by omega)))
          rw [this]; exact HC
      clear hx hy HC
      go_wp2_with fail
      refine (cx.out _ (by omega)).mono ?_
      rintro e w1 ⟨rfl, rfl⟩
      go_wp2_with fail
      refine (cy.out _ (by omega)).mono ?_
      rintro e w1 ⟨rfl, rfl⟩
      go_wp2_with fail
      have rc := cell_regrown pc
      have rcm := cell_regrown pcm
      refine wp_region_rel 9 (by kernel_rfl) (by kernel_rfl) ?_
      simp only [List.take_succ_cons, List.take_zero, List.drop_succ_cons, List.drop_zero]
      (refine rel_fix0 (fun K hK => ?_); go_simp; refine hK _ ?_; clear hK K)
      (refine rel_fix0 (fun K hK => ?_); go_simp; refine hK _ ?_; clear hK K)
      (refine rel_fix0 (fun K hK => ?_); go_simp; refine hK _ ?_; clear hK K)
      (refine rel_fix0 (fun K hK => ?_); go_simp; refine hK _ ?_; clear hK K)
      (refine rel_fix0 (fun K hK => ?_); go_simp; refine hK _ ?_; clear hK K)
      (refine rel_fix0 (fun K hK => ?_); go_simp; refine hK _ ?_; clear hK K)
      (refine rel_fix0 (fun K hK => ?_); go_simp; refine hK _ ?_; clear hK K)
      (refine rel_fix0 (fun K hK => ?_); go_simp; refine hK _ ?_; clear hK K)
      (refine rel_fix0 (fun K hK => ?_); go_simp; refine hK _ ?_; clear hK K)
      refine rel_nil ?_
      intro d os
      simp only [relAll]
      have hlo2 : Below w.heap.size w (grow (redrawn _ d) os) := hlo.trans ((below_regrown _ d os).mono hlo.size)
      clear rc rcm pc pcm hlo cx cy
      generalize grow (redrawn _ d) os = wd at hlo2 ⊢
      cases t
      · go_wp2_with fail
        go_roundw
        case rel => exact ⟨k + 1, by omega, by go_num, by rw [HR.out]; rfl, hlo2⟩
        case measure => simp [intOf]; omega
      · go_wp2_with fail
        go_roundw
        case rel => exact ⟨k + 1, by omega, by go_num, by rw [HR.out]; rfl, hlo2⟩
        case measure => simp [intOf]; omega
    · have hkn : k = n := by omega
      have Hkn := Lib.hid hkn
      clear hkn
      go_wp2_with fail
      go_ret
      exact ⟨ret_u8 (by rw [Hkn.out]), hlo⟩
/-- whether the first k states are those of a lesser number -/
def belK (l m : List UInt8) (s : Bool) : Nat → Bool
  | 0 => false
  | k + 1 => if l.getD k 0 = m.getD k 0 then belK l m s k else ((l.getD k 0 == 48) != (s && decide (k + 1 = l.length)))
set_option maxRecDepth 100000 in
set_option maxHeartbeats 4000000 in
theorem below_is (v u : Value) (l m : List UInt8) (s : Bool) (hlm : l.length = m.length) (hl : l.length ≤ 1000000) (w : World) (h : Row8 w v l) (h' : Row8 w u m) :
    Calls Tryz.prog 91 #[v, u, .bool s] w fun e w' => e = .returned (.bool (belK l m s l.length)) ∧ Below w.heap.size w w' := by
  obtain ⟨a, cap, rfl, h0⟩ := id h.sh
  obtain ⟨b, capb, rfl, h0b⟩ := id h'.sh
  have H0 := Lib.hid h0
  have H0b := Lib.hid h0b
  clear h h0 h' h0b
  generalize hn : l.length = n at hl hlm ⊢
  have HM := Lib.hid hlm.symm
  rw [← hlm]
  have HN := Lib.hid hn
  clear hn hlm
  obtain ⟨r, hr⟩ : ∃ r, belK l m s n = r := ⟨_, rfl⟩
  rw [hr]
  have HR := Lib.hid hr
  clear hr
  go_enter Tryz.func91, Tryz.ntmps91
  go_wp2_with fail
  go_loopw [7] (fun s7 wr => ∃ k : Nat, k ≤ n ∧ s7 = .int .i64 ((k : Int) - 1) ∧ belK l m s k = r ∧ Below w.heap.size w wr) (fun s7 _ => (intOf s7 + 1).toNat)
  case atStart => exact ⟨n, Nat.le_refl _, by first | rfl | go_num, HR.out, Below.refl _ _⟩
  case round =>
    obtain ⟨j, hj, rfl, hbj, hlo⟩ := hrel
    have HB := Lib.hid hbj
    clear hbj
    match j, hj, HB with
    | 0, hj, HB =>
      go_wp2_with fail
      go_ret
      exact ⟨by rw [← HB.out]; rfl, hlo⟩
    | k + 1, hj, HB =>
      have hkl : k < l.length := by rw [HN.out]; omega
      have hkm : k < m.length := by rw [HM.out]; omega
      obtain ⟨bl, off, rfl, hc⟩ := Row8.nth (cap := cap) (n := n) H0.out hkl
      obtain ⟨bm, ofm, rfl, hcm⟩ := Row8.nth (cap := capb) (n := n) H0b.out hkm
      have pc := ((bcell hlo).1 _ _ (World.block_lt_of_cell? w _ hc)).trans hc
      have pcm := ((bcell hlo).1 _ _ (World.block_lt_of_cell? w _ hcm)).trans hcm
      have HS := Lib.hid (show (if l[k] = m[k] then belK l m s k else ((l[k] == 48) != (s && decide (k + 1 = n)))) = r from by rw [← HB.out, ← getD_at hkl, ← getD_at hkm]; show _ = (if _ then _ else _); rw [HN.out])
      have hk0 : (0 : Int) ≤ (k : Int) := by omega
      have hk1 : (k : Int) < (n : Int) := by omega
      have ek : ((k + 1 : Nat) : Int) - 1 = (k : Int) := by omega
      rw [ek]
      clear hc hcm HB ek
      generalize l[k] = x at pc HS
      generalize m[k] = y at pcm HS
      have rc := cell_regrown pc
      have rcm := cell_regrown pcm
      obtain ⟨t, ht⟩ : ∃ t, ((x.toNat : Int) != (y.toNat : Int)) = t := ⟨_, rfl⟩
      have HS2 : Hid ((if t then ((x == 48) != (s && decide (k + 1 = n))) else belK l m s k) = r) := by
        by_cases e : x = y
        · have : t = false := by rw [← ht, e]; simp
          rw [if_pos e] at HS
          rw [this]; exact HS
        · have : t = true := by rw [← ht]; exact bne_iff_ne.2 (fun h => e (UInt8.toNat_inj.1 (by omega)))
          rw [if_neg e] at HS
          rw [this]; exact HS
      clear HS
      go_wp2_with fail
      refine wp_region_rel 9 (by kernel_rfl) (by kernel_rfl) ?_
      simp only [List.take_succ_cons, List.take_zero, List.drop_succ_cons, List.drop_zero]
      (refine rel_fix0 (fun K hK => ?_); go_simp; refine hK _ ?_; clear hK K)
      (refine rel_fix0 (fun K hK => ?_); go_simp; refine hK _ ?_; clear hK K)
      (refine rel_fix0 (fun K hK => ?_); go_simp; refine hK _ ?_; clear hK K)
      (refine rel_fix0 (fun K hK => ?_); go_simp; refine hK _ ?_; clear hK K)
      (refine rel_fix0 (fun K hK => ?_); go_simp; refine hK _ ?_; clear hK K)
      (refine rel_fix0 (fun K hK => ?_); go_simp; refine hK _ ?_; clear hK K)
      (refine rel_fix0 (fun K hK => ?_); go_simp; refine hK _ ?_; clear hK K)
      (refine rel_fix0 (fun K hK => ?_); go_simp; refine hK _ ?_; clear hK K)
      (refine rel_fix0 (fun K hK => ?_); go_simp; refine hK _ ?_; clear hK K)
      refine rel_nil ?_
      intro d os
      simp only [relAll]
      have hlo2 : Below w.heap.size w (grow (redrawn _ d) os) := hlo.trans ((below_regrown _ d os).mono hlo.size)
      have pc2 := rc d os
      clear rc rcm pc pcm hlo
      generalize grow (redrawn _ d) os = wd at hlo2 pc2 ⊢
      cases t
      · go_wp2_with fail
        go_roundw
        case rel => exact ⟨k, by omega, by go_num, HS2.out, hlo2⟩
        case measure => simp [intOf]
      · have H48 : Hid (((x.toNat : Int) == 48) = (x == 48)) := by
          refine Lib.hid ?_
          rw [Bool.eq_iff_iff, beq_iff_eq, beq_iff_eq]
          exact ⟨fun h => UInt8.toNat_inj.1 (by simpa using Int.ofNat_inj.1 h), fun h => by rw [h]; rfl⟩
        obtain ⟨t8, ht8⟩ : ∃ t8, ((x.toNat : Int) == 48) = t8 := ⟨_, rfl⟩
        rw [ht8] at H48
        obtain ⟨q, hq⟩ : ∃ q, ((k : Int) == (n : Int) - 1) = q := ⟨_, rfl⟩
        have HQ : Hid (decide (k + 1 = n) = q) := by
          refine Lib.hid ?_
          rw [← hq, Bool.eq_iff_iff, decide_eq_true_eq, beq_iff_eq]; omega
        have HF : Hid (r = (t8 != (s && q))) := by rw [← HS2.out, if_pos rfl, HQ.out, H48.out]; exact rfl
        clear HS2 H48 HQ
        cases s <;> cases q <;> cases t8 <;>
        · go_wp2_with fail
          go_ret
          exact ⟨by rw [HF.out]; rfl, hlo2⟩
end Go.Proofs.YtodldcdfdjooaaaGreatDoor
namespace Go.Proofs.YtodldcdfdjooaaaGreatDoor
open Go Go.RowKit Go.Sort
set_option linter.unusedVariables false
/-- one state, as a vector -/
theorem Bl_t : Bl [49] = ⟨1, (tr true).v, (tr true).x⟩ := Bl_map (tr_ok true) (by decide)
theorem Bl_f : Bl [48] = ⟨1, (tr false).v, (tr false).x⟩ := Bl_map (tr_ok false) (by decide)
theorem Bl_x : Bl [120] = ⟨1, (fl 1 3).v, (fl 1 3).x⟩ := Bl_map (fl_ok (by decide) (by decide) 3) (by decide)
theorem Bl_tr (t : Bool) : Bl [oneB (truN t)] = ⟨1, (tr t).v, (tr t).x⟩ := by cases t; exact Bl_f; exact Bl_t
def okP (l m : List UInt8) (i : Nat) : Bool := !(kn1 (l.getD i 0) && kn1 (m.getD i 0) && !(l.getD i 0 == m.getD i 0))
def knP (l m : List UInt8) (i : Nat) : Bool := kn1 (l.getD i 0) && kn1 (m.getD i 0)
theorem cmpK_is (l m : List UInt8) : ∀ k, cmpK l m k = if (List.range k).all (okP l m) then (if (List.range k).all (knP l m) then 116 else 117) else 102
  | 0 => rfl
  | k + 1 => by
    show cmpF (cmpK l m k) _ _ = _
    rw [cmpK_is l m k, List.range_succ, List.all_append, List.all_append]
    generalize (List.range k).all (okP l m) = A
    generalize (List.range k).all (knP l m) = B
    have e1 : ([k].all (okP l m)) = okP l m k := by simp
    have e2 : ([k].all (knP l m)) = knP l m k := by simp
    rw [e1, e2]
    unfold okP knP cmpF
    generalize l.getD k 0 = x
    generalize m.getD k 0 = y
    by_cases e : x = y
    · subst e
      have : (x == x) = true := by simp
      rw [this]
      cases kn1 x <;> cases A <;> cases B <;> simp
    · have : (x == y) = false := by simpa using e
      rw [this]
      cases kn1 x <;> cases kn1 y <;> cases A <;> cases B <;> simp [e]
theorem kn_st (a : Vx) (i : Nat) : kn1 (st a i) = !a.x.getLsbD i := by unfold st; cases a.x.getLsbD i <;> cases a.v.getLsbD i <;> decide
theorem st_beq {a b : Vx} {i : Nat} (h1 : a.x.getLsbD i = false) (h2 : b.x.getLsbD i = false) : (st a i == st b i) = (a.v.getLsbD i == b.v.getLsbD i) := by
  unfold st; rw [h1, h2]; cases a.v.getLsbD i <;> cases b.v.getLsbD i <;> decide
theorem cmp_vl {n : Nat} {a b : Vx} (ha : a.ok n) (hb : b.ok n) : Bl [oneB (cmpK (vl a n) (vl b n) n)] = ⟨1, (veq a b).v, (veq a b).x⟩ := by
  have h2 := ha.hi
  have e1 : (diff1 a b &&& ~~~(a.x ||| b.x) == 0#64) = (List.range n).all (okP (vl a n) (vl b n)) := by
    rw [zero_all _ n h2 (fun i hi => by
      rw [BitVec.getLsbD_and, bit_diff, ha.subv i hi, hb.subv i hi, ha.subx i hi, hb.subx i hi]; rfl)]
    refine all_same fun i hi => ?_
    unfold okP
    rw [vl_get a n i hi, vl_get b n i hi, kn_st, kn_st, BitVec.getLsbD_and, BitVec.getLsbD_not, BitVec.getLsbD_or, bit_diff]
    have h64 : decide (i < 64) = true := by simpa using (by omega : i < 64)
    rw [h64]
    cases hx : a.x.getLsbD i
    · cases hy : b.x.getLsbD i
      · rw [st_beq hx hy]; cases a.v.getLsbD i <;> cases b.v.getLsbD i <;> rfl
      · simp
    · cases hy : b.x.getLsbD i <;> simp
  have e2 : (a.x ||| b.x == 0#64) = (List.range n).all (knP (vl a n) (vl b n)) := by
    rw [zero_all _ n h2 (fun i hi => by rw [BitVec.getLsbD_or, ha.subx i hi, hb.subx i hi]; rfl)]
    refine all_same fun i hi => ?_
    unfold knP
    rw [vl_get a n i hi, vl_get b n i hi, kn_st, kn_st, BitVec.getLsbD_or]
    cases a.x.getLsbD i <;> cases b.x.getLsbD i <;> rfl
  rw [cmpK_is, ← e1, ← e2]
  unfold veq
  by_cases c1 : diff1 a b &&& ~~~(a.x ||| b.x) = 0#64
  · rw [if_pos c1, beq_iff_eq.2 c1, if_pos rfl]
    by_cases c2 : a.x ||| b.x = 0#64
    · rw [if_pos c2, beq_iff_eq.2 c2]; exact Bl_t
    · rw [if_neg c2, beq_eq_false_iff_ne.2 c2]; exact Bl_x
  · rw [if_neg c1, beq_eq_false_iff_ne.2 c1]; exact Bl_f
theorem vl_eq {n : Nat} {a b : Vx} (ha : a.ok n) (hb : b.ok n) : decide (vl a n = vl b n) = (a.v == b.v && a.x == b.x) := by
  rw [Bool.eq_iff_iff, decide_eq_true_eq, Bool.and_eq_true, beq_iff_eq, beq_iff_eq]
  constructor
  · intro h
    have hv : a.v = b.v := by rw [← bvw_vl ha, ← bvw_vl hb, h]
    have hx : a.x = b.x := by rw [← bxw_vl ha, ← bxw_vl hb, h]
    exact ⟨hv, hx⟩
  · rintro ⟨h1, h2⟩
    obtain ⟨av, ax⟩ := a
    obtain ⟨bv, bx⟩ := b
    simp only at h1 h2
    rw [h1, h2]
/-- opposites -/
theorem opp_t (t : Bool) : oppN (truN t) = truN (!t) := by cases t <;> rfl
theorem vx_same {a b : Vx} (h : a.v = b.v) (k : a.x = b.x) : a = b := by cases a; cases b; simp_all
theorem lnot_tr (t : Bool) : vlnot (tr t) = tr (!t) := by cases t <;> exact vx_same (by decide +kernel) (by decide +kernel)
theorem lnot_x : vlnot (fl 1 3) = fl 1 3 := vx_same (by decide +kernel) (by decide +kernel)
theorem Bl_opp {c : Nat} {q : Vx} (hc : c = 116 ∧ q = tr true ∨ c = 102 ∧ q = tr false ∨ c = 117 ∧ q = fl 1 3) : Bl [oneB c] = ⟨1, q.v, q.x⟩ ∧ Bl [oneB (oppN c)] = ⟨1, (vlnot q).v, (vlnot q).x⟩ := by
  rcases hc with ⟨rfl, rfl⟩ | ⟨rfl, rfl⟩ | ⟨rfl, rfl⟩
  · exact ⟨Bl_t, by rw [lnot_tr]; exact Bl_f⟩
  · exact ⟨Bl_f, by rw [lnot_tr]; exact Bl_t⟩
  · exact ⟨Bl_x, by rw [lnot_x]; exact Bl_x⟩
theorem one_inj {c : Nat} {q : Vx} (hq : q = tr true ∨ q = tr false ∨ q = fl 1 3) (hc : c = 116 ∨ c = 102 ∨ c = 117) (h : Bl [oneB c] = ⟨1, q.v, q.x⟩) : c = 116 ∧ q = tr true ∨ c = 102 ∧ q = tr false ∨ c = 117 ∧ q = fl 1 3 := by
  have key : ∀ q' : Vx, Bl [oneB c] = ⟨1, q'.v, q'.x⟩ → q = q' := fun q' h' => by
    rw [h'] at h; obtain ⟨v, x⟩ := q; obtain ⟨v', x'⟩ := q'; simp only [Rb.mk.injEq, true_and] at h; rw [h.1, h.2]
  rcases hc with rfl | rfl | rfl
  · exact .inl ⟨rfl, key _ Bl_t⟩
  · exact .inr (.inl ⟨rfl, key _ Bl_f⟩)
  · exact .inr (.inr ⟨rfl, key _ Bl_x⟩)
theorem veq_in (a b : Vx) : veq a b = tr true ∨ veq a b = tr false ∨ veq a b = fl 1 3 := by
  unfold veq; split
  · split
    · exact .inl rfl
    · exact .inr (.inr rfl)
  · exact .inr (.inl rfl)
theorem ne_vl {n : Nat} {a b : Vx} (ha : a.ok n) (hb : b.ok n) : Bl [oneB (oppN (cmpK (vl a n) (vl b n) n))] = ⟨1, (vlnot (veq a b)).v, (vlnot (veq a b)).x⟩ :=
  (Bl_opp (one_inj (veq_in a b) (cmpK_in _ _ _) (cmp_vl ha hb))).2
/-- lists of known states -/
def Kn (l : List UInt8) : Prop := ∀ i, i < l.length → l.getD i 0 = 48 ∨ l.getD i 0 = 49
theorem kn_vl {n : Nat} {a : Vx} (hx : a.x = 0#64) : Kn (vl a n) := fun i hi => by
  rw [vl_len] at hi
  rw [vl_get a n i hi]; unfold st; rw [hx]; cases a.v.getLsbD i <;> simp
theorem belK_num {l m : List UInt8} (hl : Kn l) (hm : Kn m) (hlm : l.length = m.length) : ∀ k, k ≤ l.length → belK l m false k = decide (num l k < num m k)
  | 0, _ => by unfold belK num; decide
  | k + 1, h => by
    have ih := belK_num hl hm hlm k (by omega)
    have a1 := num_lt l k
    have a2 := num_lt m k
    rw [num_step, num_step]
    show (if _ then _ else _) = _
    rcases hl k (by omega) with h1 | h1 <;> rcases hm k (by omega) with h2 | h2 <;> rw [h1, h2]
    · rw [if_pos rfl, ih]; simp [bit1]
    · rw [if_neg (by decide)]
      have : num l k + bit1 48 * 2 ^ k < num m k + bit1 49 * 2 ^ k := by simp [bit1]; omega
      rw [decide_eq_true this]; rfl
    · rw [if_neg (by decide)]
      have : ¬ num l k + bit1 49 * 2 ^ k < num m k + bit1 48 * 2 ^ k := by simp [bit1]; omega
      rw [decide_eq_false this]; rfl
    · rw [if_pos rfl, ih]
      simp [bit1]
theorem belK_low {l m : List UInt8} (s : Bool) : ∀ k, k < l.length → belK l m s k = belK l m false k
  | 0, _ => rfl
  | k + 1, h => by
    show (if _ then _ else _) = (if _ then _ else _)
    rw [belK_low s k (by omega), decide_eq_false (show ¬ k + 1 = l.length by omega), Bool.and_false, Bool.and_false]
theorem bel_vl {n : Nat} {a b : Vx} (s : Bool) (ha : a.ok n) (hb : b.ok n) (hx : a.x = 0#64) (hy : b.x = 0#64) : belK (vl a n) (vl b n) s n = ltb n s a b := by
  have ka := kn_vl (n := n) hx
  have kb := kn_vl (n := n) hy
  have na := num_vl ha hx
  have nb := num_vl hb hy
  have h1 := ha.lo
  have h2 := ha.hi
  cases s
  · have := belK_num ka kb (by rw [vl_len, vl_len]) n (by rw [vl_len]; exact Nat.le_refl _)
    rw [this, na, nb]
    unfold ltb
    rw [if_neg (by decide), Bool.eq_iff_iff, decide_eq_true_eq, decide_eq_true_eq, BitVec.lt_def]
  · obtain ⟨q, rfl⟩ : ∃ q, n = q + 1 := ⟨n - 1, by omega⟩
    have low : belK (vl a (q + 1)) (vl b (q + 1)) true q = decide (num (vl a (q + 1)) q < num (vl b (q + 1)) q) := by
      rw [belK_low true q (by rw [vl_len]; omega), belK_num ka kb (by rw [vl_len, vl_len]) q (by rw [vl_len]; omega)]
    have a1 := num_lt (vl a (q + 1)) q
    have a2 := num_lt (vl b (q + 1)) q
    have ta := num_lt (vl a (q + 1)) (q + 1)
    have tb := num_lt (vl b (q + 1)) (q + 1)
    rw [na] at ta
    rw [nb] at tb
    rw [num_step] at na nb
    unfold ltb
    rw [if_pos rfl]
    have es : (ext (q + 1) a.v).slt (ext (q + 1) b.v) = decide ((ext (q + 1) a.v).toInt < (ext (q + 1) b.v).toInt) := rfl
    rw [es, ext_toInt h1 h2 ta, ext_toInt h1 h2 tb]
    have hp : (2 : Int) ^ (q + 1) = ((2 ^ q : Nat) : Int) + ((2 ^ q : Nat) : Int) := by rw [Int.pow_succ]; push_cast; omega
    have hq1 : q + 1 - 1 = q := by omega
    rw [hp, hq1]
    show (if _ then _ else _) = _
    rcases ka q (by rw [vl_len]; omega) with e1 | e1 <;> rcases kb q (by rw [vl_len]; omega) with e2 | e2 <;> rw [e1] at na <;> rw [e2] at nb <;> rw [e1, e2]
    · rw [if_pos rfl, low]
      simp only [bit1, show ¬ (48 : UInt8) = 49 by decide, if_false, Nat.zero_mul, Nat.add_zero] at na nb
      rw [← na, ← nb, if_pos a1, if_pos a2, Bool.eq_iff_iff, decide_eq_true_eq, decide_eq_true_eq]; omega
    · rw [if_neg (by decide)]
      simp only [bit1, show ¬ (48 : UInt8) = 49 by decide, if_false, if_true, Nat.zero_mul, Nat.add_zero, Nat.one_mul] at na nb
      rw [← na, ← nb, if_pos a1, if_neg (by omega), vl_len, decide_eq_true rfl]
      symm; exact decide_eq_false (by omega)
    · rw [if_neg (by decide)]
      simp only [bit1, show ¬ (48 : UInt8) = 49 by decide, if_false, if_true, Nat.zero_mul, Nat.add_zero, Nat.one_mul] at na nb
      rw [← na, ← nb, if_pos a2, if_neg (by omega), vl_len, decide_eq_true rfl]
      symm; exact decide_eq_true (by omega)
    · rw [if_pos rfl, low]
      simp only [bit1, if_true, Nat.one_mul] at na nb
      rw [← na, ← nb, if_neg (by omega), if_neg (by omega), Bool.eq_iff_iff, decide_eq_true_eq, decide_eq_true_eq]; omega
theorem le_lt {n : Nat} {a b : Vx} (s : Bool) (ha : a.ok n) (hb : b.ok n) (hx : a.x = 0#64) (hy : b.x = 0#64) : (!ltb n s b a) = (ltb n s a b || (a.v == b.v && a.x == b.x)) := by
  have h1 := ha.lo
  have h2 := ha.hi
  rw [hx, hy, beq_self_eq_true, Bool.and_true]
  cases s
  · unfold ltb
    rw [if_neg (by decide), if_neg (by decide), Bool.eq_iff_iff]
    simp only [Bool.not_eq_true', decide_eq_false_iff_not, Bool.or_eq_true, decide_eq_true_eq, beq_iff_eq, BitVec.lt_def, ← BitVec.toNat_inj]
    omega
  · have ta := num_lt (vl a n) n
    have tb := num_lt (vl b n) n
    rw [num_vl ha hx] at ta
    rw [num_vl hb hy] at tb
    have hp : (2 : Int) ^ n = ((2 ^ n : Nat) : Int) := by push_cast; rfl
    unfold ltb
    rw [if_pos rfl, if_pos rfl]
    have e1 : (ext n a.v).slt (ext n b.v) = decide ((ext n a.v).toInt < (ext n b.v).toInt) := rfl
    have e2 : (ext n b.v).slt (ext n a.v) = decide ((ext n b.v).toInt < (ext n a.v).toInt) := rfl
    rw [e1, e2, ext_toInt h1 h2 ta, ext_toInt h1 h2 tb, hp, Bool.eq_iff_iff]
    simp only [Bool.not_eq_true', decide_eq_false_iff_not, Bool.or_eq_true, decide_eq_true_eq, beq_iff_eq, ← BitVec.toNat_inj]
    split <;> split <;> omega
end Go.Proofs.YtodldcdfdjooaaaGreatDoor
namespace Go.Proofs.YtodldcdfdjooaaaGreatDoor
open Go Go.RowKit Go.Sort
set_option linter.unusedVariables false
/-- a slice of bytes that its maker owns -/
def Own8 (B : Nat) (w : World) (v : Value) (l : List UInt8) : Prop := w.ownsRow B 5 1 v l.length (Lib.byteCells l)
theorem Own8.row {B : Nat} {w : World} {v : Value} {l : List UInt8} (h : Own8 B w v l) : Row8 w v l := row8_own h
theorem Own8.below {B : Nat} {w w' : World} {v : Value} {l : List UInt8} (h : Own8 B w v l) (hb : Below w.heap.size w w') : Own8 B w' v l := own_below h hb
theorem Own8.mono {B B' : Nat} {w : World} {v : Value} {l : List UInt8} (h : Own8 B w v l) (hB : B' ≤ B) : Own8 B' w v l := by
  refine ⟨h.1, ?_⟩
  rcases h.2 with h0 | ⟨g, cap, cur, hv, hb, r⟩
  · exact .inl h0
  · exact .inr ⟨g, cap, cur, hv, Nat.le_trans hB hb, r⟩
set_option maxRecDepth 100000 in
set_option maxHeartbeats 6000000 in
theorem plus_own (v u : Value) (l m : List UInt8) (c : UInt8) (hlm : l.length = m.length) (hl : l.length ≤ 1000000) (w : World) (h : Row8 w v l) (h' : Row8 w u m) :
    Calls Tryz.prog 107 #[v, u, .int .u8 (c.toNat : Int)] w fun e w' => ∃ v, e = .returned v ∧ Own8 w.heap.size w' v (sumK l m c l.length) ∧ Below w.heap.size w w' := by
  obtain ⟨i0, hi, hz0, hz1, hz2⟩ := info_parts info5
  obtain ⟨a, cap, rfl, h0⟩ := h.sh
  obtain ⟨b, capb, rfl, h0b⟩ := h'.sh
  have H0 := Lib.hid h0
  have H0b := Lib.hid h0b
  clear h h0 h' h0b
  generalize hn : l.length = n at hl hlm ⊢
  have HM := Lib.hid hlm.symm
  rw [← hlm]
  have HN := Lib.hid hn
  clear hn hlm
  go_enter Tryz.func107, Tryz.ntmps107
  go_wp2_with fail
  go_loopw [2, 7, 11] (fun cc v i wr => ∃ k : Nat, k ≤ n ∧ i = .int .i64 k ∧ cc = .int .u8 ((carK l m c k).toNat : Int) ∧ wr.ownsRow w.heap.size 5 1 v k (Lib.byteCells (sumK l m c k)) ∧ Below w.heap.size w wr) (fun _ _ i _ => n - (intOf i).toNat)
  case atStart => exact ⟨0, Nat.zero_le _, rfl, rfl, World.ownsRow_nil _ _ _ _, Below.refl _ _⟩
  case round =>
    obtain ⟨k, hk, rfl, rfl, hown, hlo⟩ := hrel
    by_cases hlt : k < n
    · have hkl : k < l.length := by rw [HN.out]; exact hlt
      have hkm : k < m.length := by rw [HM.out]; exact hlt
      obtain ⟨bl, off, rfl, hc⟩ := Row8.nth (cap := cap) (n := n) H0.out hkl
      obtain ⟨bm, ofm, rfl, hcm⟩ := Row8.nth (cap := capb) (n := n) H0b.out hkm
      have hk0 : (0 : Int) ≤ (k : Int) := by omega
      have hk1 : (k : Int) < (n : Int) := by omega
      have HC := Lib.hid (show Lib.byteCells (sumK l m c (k + 1)) = Lib.byteCells (sumK l m c k) ++ [Value.int .u8 (xorB (xorB l[k] m[k]) (carK l m c k)).toNat] from by rw [← getD_at hkl, ← getD_at hkm]; unfold Lib.byteCells; show List.map _ (sumK l m c k ++ _) = _; rw [List.map_append]; rfl)
      have HK := Lib.hid (show carK l m c (k + 1) = orB (andB l[k] m[k]) (andB (carK l m c k) (xorB l[k] m[k])) from by rw [← getD_at hkl, ← getD_at hkm]; rfl)
      have pc := ((bcell hlo).1 _ _ (World.block_lt_of_cell? w _ hc)).trans hc
      have pcm := ((bcell hlo).1 _ _ (World.block_lt_of_cell? w _ hcm)).trans hcm
      generalize l[k] = x at pc hc HC HK
      generalize m[k] = y at pcm hcm HC HK
      generalize carK l m c k = cr at HC HK ⊢
      have HCL := Lib.hid hc
      have HCM := Lib.hid hcm
      clear hc hcm
      have rc := cell_regrown pc
      have rcm := cell_regrown pcm
      go_wp2_with fail
      refine wp_region_rel 13 (by kernel_rfl) (by kernel_rfl) ?_
      simp only [List.take_succ_cons, List.take_zero, List.drop_succ_cons, List.drop_zero]
      (refine rel_fix0 (fun K hK => ?_); go_simp; refine hK _ ?_; clear hK K)
      (refine rel_fix0 (fun K hK => ?_); go_simp; refine hK _ ?_; clear hK K)
      (refine rel_fix0 (fun K hK => ?_); go_simp; refine hK _ ?_; clear hK K)
      (refine rel_fix0 (fun K hK => ?_); go_simp; refine hK _ ?_; clear hK K)
      (refine rel_fix0 (fun K hK => ?_); go_simp; refine hK _ ?_; clear hK K)
      (refine rel_fix0 (fun K hK => ?_); go_simp; refine hK _ ?_; clear hK K)
      (refine rel_fix0 (fun K hK => ?_); go_simp; refine hK _ ?_; clear hK K)
      (refine rel_fix0 (fun K hK => ?_); go_simp; refine hK _ ?_; clear hK K)
      (refine rel_fix0 (fun K hK => ?_); go_simp; refine hK _ ?_; clear hK K)
      (refine rel_fix0 (fun K hK => ?_); go_simp; apply Exists.intro; refine ⟨fun _ _ => ?_, hK _ ?_⟩; (with_reducible exact ret_same (xorB_ok x y _)); clear hK K)
      (refine rel_fix0 (fun K hK => ?_); go_simp; refine hK _ ?_; clear hK K)
      (refine rel_fix0 (fun K hK => ?_); go_simp; apply Exists.intro; refine ⟨fun _ _ => ?_, hK _ ?_⟩; (with_reducible exact ret_same (xorB_ok (xorB x y) cr _)); clear hK K)
      refine rel_fact [] (One8 (xorB (xorB x y) cr).toNat) 26 rfl (by simp) (one8_sta _) (by rfl) (by kernel_rfl) (by kernel_rfl) ?_ ?_
      · intro d os
        simp only [relAll]
        go_simp
        exact ⟨⟨_, rfl, by go_simp⟩, (Below.refl _ _).alloc (Nat.le_of_eq Array.size_append.symm) _⟩
      refine rel_nil ?_
      intro d os
      simp only [relAll]
      rintro uz ⟨bz, rfl, hz⟩
      have hb9 := below_regrown wr d os
      have hown2 := own_below hown hb9
      have hlo2 : Below w.heap.size w (grow (redrawn wr d) os) := hlo.trans (hb9.mono hlo.size)
      clear rc rcm hlo hown hb9 pc pcm
      generalize grow (redrawn wr d) os = wd at hlo2 hown2 hz ⊢
      generalize xorB (xorB x y) cr = z at HC hz ⊢
      go_wp2_with (at_builtin; refine wpList_append_own _ rfl _ _ 30 rfl w.heap.size 5 i0 (.int .u8 0) 1 1 Tryz.underlying30 hi hz0 hz1 hz2 rfl (by decide) _ _ _ rfl hown2 ⟨bz, 0, none⟩ 1 1 [.int .u8 z.toNat] rfl rfl ?d1 ?d2 ?d3 ?d4 ?d5 ?_)
      case d1 =>
        intro q u hq
        match q, hq with
        | 0, hq => simp at hq; subst hq; simpa [Addr.add] using hz
      case d2 => intro u hu; simp at hu; subst hu; rfl
      case d3 => unfold maxLen; omega
      case d4 => omega
      case d5 => exact hlo2.size
      intro v5 w5 hown5 hgr5 _
      have T : w5.ownsRow w.heap.size 5 1 v5 (k + 1) (Lib.byteCells (sumK l m c (k + 1))) ∧ Below w.heap.size w w5 := by
        rw [HC.out]
        exact ⟨hown5, hlo2.grown hgr5 hlo2.size (fun k hk => (hown2.lt k hk).1)⟩
      clear hown5 hgr5 hown2 hlo2 hz
      have pc := ((bcell T.2).1 _ _ (World.block_lt_of_cell? w _ HCL.out)).trans HCL.out
      have pcm := ((bcell T.2).1 _ _ (World.block_lt_of_cell? w _ HCM.out)).trans HCM.out
      have rc := cell_regrown pc
      have rcm := cell_regrown pcm
      have HT := Lib.hid T
      clear T
      go_wp2_with fail
      refine wp_region_rel 22 (by kernel_rfl) (by kernel_rfl) ?_
      simp only [List.take_succ_cons, List.take_zero, List.drop_succ_cons, List.drop_zero]
      (refine rel_fix0 (fun K hK => ?_); go_simp; refine hK _ ?_; clear hK K)
      (refine rel_fix0 (fun K hK => ?_); go_simp; refine hK _ ?_; clear hK K)
      (refine rel_fix0 (fun K hK => ?_); go_simp; refine hK _ ?_; clear hK K)
      (refine rel_fix0 (fun K hK => ?_); go_simp; refine hK _ ?_; clear hK K)
      (refine rel_fix0 (fun K hK => ?_); go_simp; refine hK _ ?_; clear hK K)
      (refine rel_fix0 (fun K hK => ?_); go_simp; refine hK _ ?_; clear hK K)
      (refine rel_fix0 (fun K hK => ?_); go_simp; refine hK _ ?_; clear hK K)
      (refine rel_fix0 (fun K hK => ?_); go_simp; refine hK _ ?_; clear hK K)
      (refine rel_fix0 (fun K hK => ?_); go_simp; apply Exists.intro; refine ⟨fun _ _ => ?_, hK _ ?_⟩; (with_reducible exact ret_same (andB_ok x y _)); clear hK K)
      (refine rel_fix0 (fun K hK => ?_); go_simp; refine hK _ ?_; clear hK K)
      (refine rel_fix0 (fun K hK => ?_); go_simp; refine hK _ ?_; clear hK K)
      (refine rel_fix0 (fun K hK => ?_); go_simp; refine hK _ ?_; clear hK K)
      (refine rel_fix0 (fun K hK => ?_); go_simp; refine hK _ ?_; clear hK K)
      (refine rel_fix0 (fun K hK => ?_); go_simp; refine hK _ ?_; clear hK K)
      (refine rel_fix0 (fun K hK => ?_); go_simp; refine hK _ ?_; clear hK K)
      (refine rel_fix0 (fun K hK => ?_); go_simp; refine hK _ ?_; clear hK K)
      (refine rel_fix0 (fun K hK => ?_); go_simp; refine hK _ ?_; clear hK K)
      (refine rel_fix0 (fun K hK => ?_); go_simp; refine hK _ ?_; clear hK K)
      (refine rel_fix0 (fun K hK => ?_); go_simp; apply Exists.intro; refine ⟨fun _ _ => ?_, hK _ ?_⟩; (with_reducible exact ret_same (xorB_ok x y _)); clear hK K)
      (refine rel_fix0 (fun K hK => ?_); go_simp; apply Exists.intro; refine ⟨fun _ _ => ?_, hK _ ?_⟩; (with_reducible exact ret_same (andB_ok cr (xorB x y) _)); clear hK K)
      (refine rel_fix0 (fun K hK => ?_); go_simp; apply Exists.intro; refine ⟨fun _ _ => ?_, hK _ ?_⟩; (with_reducible exact ret_same (orB_ok (andB x y) (andB cr (xorB x y)) _)); clear hK K)
      (refine rel_fix0 (fun K hK => ?_); go_simp; refine hK _ ?_; clear hK K)
      refine rel_nil ?_
      intro d os
      simp only [relAll]
      have T2 : (grow (redrawn w5 d) os).ownsRow w.heap.size 5 1 v5 (k + 1) (Lib.byteCells (sumK l m c (k + 1))) ∧ Below w.heap.size w (grow (redrawn w5 d) os) := ⟨own_below HT.out.1 (below_regrown w5 d os), HT.out.2.trans ((below_regrown w5 d os).mono HT.out.2.size)⟩
      clear rc rcm pc pcm
      generalize grow (redrawn w5 d) os = w6 at T2 ⊢
      go_wp2_with fail
      go_roundw
      case rel => exact ⟨k + 1, by omega, by go_num, by rw [HK.out], T2⟩
      case measure => simp [intOf]; omega
    · have hkn : k = n := by omega
      have Hkn := Lib.hid hkn
      clear hkn
      go_wp2_with fail
      go_ret
      refine ⟨_, rfl, ?_, hlo⟩
      rw [← Hkn.out]
      unfold Own8; rw [sumK_len]; exact hown
set_option maxRecDepth 100000 in
set_option maxHeartbeats 1000000 in
theorem refFill_own (n : Nat) (c : UInt8) (hn : n ≤ 1000000) (w : World) :
    Calls Tryz.prog 68 #[.int .i64 n, .int .u8 (c.toNat : Int)] w fun e w' => ∃ v, e = .returned v ∧ Own8 w.heap.size w' v (List.replicate n c) ∧ Below w.heap.size w w' := by
  obtain ⟨i0, hi, hz0, hz1, hz2⟩ := info_parts info5
  go_enter Tryz.func68, Tryz.ntmps68
  go_wp2_with fail
  go_loopw [5, 7] (fun v i wr => ∃ k : Nat, k ≤ n ∧ i = .int .i64 k ∧ wr.ownsRow w.heap.size 5 1 v (List.replicate k c).length (Lib.byteCells (List.replicate k c)) ∧ Below w.heap.size w wr) (fun _ i _ => n - (intOf i).toNat)
  case atStart => exact ⟨0, Nat.zero_le _, rfl, World.ownsRow_nil _ _ _ _, Below.refl _ _⟩
  case round =>
    obtain ⟨k, hk, rfl, hown, hlo⟩ := hrel
    have Hlen := Lib.hid (List.length_replicate (n := k) (a := c))
    by_cases hlt : k < n
    · have HC : Lib.byteCells (List.replicate (k + 1) c) = Lib.byteCells (List.replicate k c) ++ [Value.int .u8 c.toNat] ∧ (List.replicate (k + 1) c).length = k + 1 := by
        refine ⟨?_, List.length_replicate⟩
        rw [List.replicate_succ']; unfold Lib.byteCells; simp
      have HCC := Lib.hid HC
      clear HC
      go_wp2_with (at_builtin; refine wpList_append_own _ rfl _ _ 30 rfl w.heap.size 5 i0 (.int .u8 0) 1 1 Tryz.underlying30 hi hz0 hz1 hz2 rfl (by decide) _ _ _ rfl (hown.alloc _) ⟨wr.heap.size, 0, none⟩ 1 1 [.int .u8 c.toNat] rfl rfl ?d1 ?d2 ?d3 ?d4 ?d5 ?_)
      case d1 =>
        intro q u hq
        match q, hq with
        | 0, hq => simp at hq; subst hq; simp [Addr.add]
      case d2 => intro u hu; simp at hu; subst hu; rfl
      case d3 => unfold maxLen; rw [Hlen.out]; omega
      case d4 => rw [Hlen.out]; omega
      case d5 => have := hlo.size; simp; omega
      intro v5 w5 hown5 hgr5 _
      have T : w5.ownsRow w.heap.size 5 1 v5 (List.replicate (k + 1) c).length (Lib.byteCells (List.replicate (k + 1) c)) ∧ Below w.heap.size w w5 := by
        rw [HCC.out.1, HCC.out.2]
        exact ⟨hown5, (hlo.alloc hlo.size _).grown hgr5 (by have := hlo.size; simp; omega) (fun k hk => (hown.lt k hk).1)⟩
      clear hown5 hgr5
      go_wp2_with fail
      go_roundw
      case rel => exact ⟨k + 1, by omega, by go_num, T⟩
      case measure => simp [intOf]; omega
    · have hkn : k = n := by omega
      have Hkn := Lib.hid hkn
      clear hkn
      go_wp2_with fail
      go_ret
      refine ⟨_, rfl, ?_, hlo⟩
      have h : Own8 w.heap.size wr _ (List.replicate k c) := hown
      rw [Hkn.out] at h; exact h
theorem minus_own (v u : Value) (l m : List UInt8) (hlm : l.length = m.length) (hl : l.length ≤ 1000000) (w : World) (h : Row8 w v l) (h' : Row8 w u m) :
    Calls Tryz.prog 108 #[v, u] w fun e w' => ∃ v, e = .returned v ∧ Own8 w.heap.size w' v (sumK l (m.map notB) 49 l.length) ∧ Below w.heap.size w w' := by
  have H := Lib.hid h
  have c := Lib.hid (inverse_any u m (by omega) w h')
  clear h h'
  go_enter Tryz.func108, Tryz.ntmps108
  go_wp2_with fail
  refine c.out.mono ?_
  rintro e w1 ⟨r, rfl, hr, hb⟩
  have HR := Lib.hid hr
  have hb0 := hb
  have cp := Lib.hid (plus_own v r l (m.map notB) 49 (by rw [List.length_map]; exact hlm) hl w1 (H.out.below hb) HR.out)
  clear hr hb
  go_wp2_with fail
  refine cp.out.mono ?_
  rintro e w2 ⟨r2, rfl, hr2, hb2⟩
  go_wp2_with fail
  go_ret
  exact ⟨r2, rfl, hr2.mono hb0.size, hb0.trans (hb2.mono hb0.size)⟩
/-- a slice of n known states that makes a number -/
def RN (n x : Nat) (v : Value) (w : World) : Prop := ∃ L : List UInt8, Row8 w v L ∧ L.length = n ∧ Kn L ∧ num L n = x
def NR (B n x : Nat) (v : Value) (w : World) : Prop := ∃ L : List UInt8, Own8 B w v L ∧ L.length = n ∧ Kn L ∧ num L n = x
theorem NR.rn {B n x : Nat} {v : Value} {w : World} (h : NR B n x v w) : RN n x v w := by
  obtain ⟨L, h1, h2, h3, h4⟩ := h
  exact ⟨L, h1.row, h2, h3, h4⟩
theorem NR.mono {B B' n x : Nat} {v : Value} {w : World} (h : NR B n x v w) (hB : B' ≤ B) : NR B' n x v w := by
  obtain ⟨L, h1, h2⟩ := h
  exact ⟨L, h1.mono hB, h2⟩
theorem RN.below {n x : Nat} {v : Value} {w w' : World} (h : RN n x v w) (hb : Below w.heap.size w w') : RN n x v w' := by
  obtain ⟨L, h1, h2⟩ := h
  exact ⟨L, h1.below hb, h2⟩
theorem NR.below {B n x : Nat} {v : Value} {w w' : World} (h : NR B n x v w) (hb : Below w.heap.size w w') : NR B n x v w' := by
  obtain ⟨L, h1, h2⟩ := h
  exact ⟨L, h1.below hb, h2⟩
theorem RN.lt {n x : Nat} {v : Value} {w : World} (h : RN n x v w) : x < 2 ^ n := by
  obtain ⟨L, _, _, _, h4⟩ := h
  rw [← h4]; exact num_lt L n
theorem rn_sta (n x : Nat) : Sta (RN n x) := fun _ _ _ h hb => h.below hb
theorem sumK_kn {l m : List UInt8} {c : UInt8} (hl : Kn l) (hm : ∀ i, i < l.length → m.getD i 0 = 48 ∨ m.getD i 0 = 49) (hc : c = 48 ∨ c = 49) : Kn (sumK l m c l.length) := by
  intro i hi
  rw [sumK_len] at hi
  rw [sumK_get l m c l.length i hi]
  have hcar := (plus_num hl hm hc i (by omega)).2
  rcases hl i hi with h1 | h1 <;> rcases hm i hi with h2 | h2 <;> rcases hcar with h3 | h3 <;> rw [h1, h2, h3] <;> simp [xorB, orB, andB, notB]
theorem sumK_num {l m : List UInt8} {c : UInt8} (hl : Kn l) (hm : ∀ i, i < l.length → m.getD i 0 = 48 ∨ m.getD i 0 = 49) (hc : c = 48 ∨ c = 49) : num (sumK l m c l.length) l.length = (num l l.length + num m l.length + bit1 c) % 2 ^ l.length := by
  have hp := (plus_num hl hm hc l.length (Nat.le_refl _)).1
  have hlt := num_lt (sumK l m c l.length) l.length
  rw [← hp, Nat.add_mul_mod_self_right, Nat.mod_eq_of_lt hlt]
theorem plusR (v u : Value) (n x y : Nat) (hn : n ≤ 1000) (w : World) (h : RN n x v w) (h' : RN n y u w) :
    Calls Tryz.prog 107 #[v, u, .int .u8 48] w fun e w' => ∃ r, e = .returned r ∧ NR w.heap.size n ((x + y) % 2 ^ n) r w' ∧ Below w.heap.size w w' := by
  obtain ⟨l, h1, rfl, hk, rfl⟩ := h
  obtain ⟨m, h1', hm, hk', rfl⟩ := h'
  have hm' : ∀ i, i < l.length → m.getD i 0 = 48 ∨ m.getD i 0 = 49 := fun i hi => hk' i (by omega)
  refine (plus_own v u l m 48 hm.symm (by omega) w h1 h1').mono fun e w' ⟨r, he, hr, hb⟩ => ⟨r, he, ⟨_, hr, sumK_len _ _ _ _, sumK_kn hk hm' (.inl rfl), ?_⟩, hb⟩
  rw [sumK_num hk hm' (.inl rfl)]; rfl
theorem minusR (v u : Value) (n x y : Nat) (hn : n ≤ 1000) (w : World) (h : RN n x v w) (h' : RN n y u w) :
    Calls Tryz.prog 108 #[v, u] w fun e w' => ∃ r, e = .returned r ∧ NR w.heap.size n ((x + (2 ^ n - y)) % 2 ^ n) r w' ∧ Below w.heap.size w w' := by
  have hy := h'.lt
  obtain ⟨l, h1, rfl, hk, rfl⟩ := h
  obtain ⟨m, h1', hm, hk', rfl⟩ := h'
  have hm' : ∀ i, i < l.length → (m.map notB).getD i 0 = 48 ∨ (m.map notB).getD i 0 = 49 := fun i hi => not_known hk' i (by omega)
  refine (minus_own v u l m hm.symm (by omega) w h1 h1').mono fun e w' ⟨r, he, hr, hb⟩ => ⟨r, he, ⟨_, hr, sumK_len _ _ _ _, sumK_kn hk hm' (.inr rfl), ?_⟩, hb⟩
  rw [sumK_num hk hm' (.inr rfl)]
  have := num_not hk' l.length (by omega)
  have e : num (m.map notB) l.length + bit1 49 = 2 ^ l.length - num m l.length := by
    have : bit1 49 = 1 := rfl
    omega
  rw [Nat.add_assoc, e]
theorem fillR (n : Nat) (hn : n ≤ 1000) (w : World) :
    Calls Tryz.prog 68 #[.int .i64 n, .int .u8 48] w fun e w' => ∃ r, e = .returned r ∧ NR w.heap.size n 0 r w' ∧ Below w.heap.size w w' := by
  refine (refFill_own n 48 (by omega) w).mono fun e w' ⟨r, he, hr, hb⟩ => ⟨r, he, ⟨_, hr, List.length_replicate, fun i hi => ?_, num_zero n n⟩, hb⟩
  rw [getD_at hi, List.getElem_replicate]; exact .inl rfl
theorem belowR (v u : Value) (n x y : Nat) (hn : n ≤ 1000) (w : World) (h : RN n x v w) (h' : RN n y u w) :
    Calls Tryz.prog 91 #[v, u, .bool false] w fun e w' => e = .returned (.bool (decide (x < y))) ∧ Below w.heap.size w w' := by
  obtain ⟨l, h1, rfl, hk, rfl⟩ := h
  obtain ⟨m, h1', hm, hk', rfl⟩ := h'
  have := below_is v u l m false hm.symm (by omega) w h1 h1'
  rwa [belK_num hk hk' hm.symm _ (Nat.le_refl _)] at this
theorem num_app (A C : List UInt8) : ∀ j, num (A ++ C) (A.length + j) = num A A.length + 2 ^ A.length * num C j
  | 0 => by
    rw [Nat.add_zero]
    show _ = _ + 2 ^ A.length * 0
    rw [Nat.mul_zero, Nat.add_zero]
    exact num_same _ fun i hi => by rw [List.getD_eq_getElem?_getD, List.getElem?_append_left hi, ← List.getD_eq_getElem?_getD]
  | j + 1 => by
    rw [← Nat.add_assoc, num_step, num_app A C j, num_step]
    have e : (A ++ C).getD (A.length + j) 0 = C.getD j 0 := by
      rw [List.getD_eq_getElem?_getD, List.getElem?_append_right (by omega), Nat.add_sub_cancel_left, ← List.getD_eq_getElem?_getD]
    rw [e, Nat.pow_add, Nat.mul_add, Nat.add_assoc]
    congr 2
    rw [← Nat.mul_assoc, Nat.mul_comm (bit1 _), Nat.mul_assoc, Nat.mul_comm (bit1 _)]
theorem num_mod (l : List UInt8) (n k : Nat) (h : k ≤ n) : num l k = num l n % 2 ^ k := by
  induction n with
  | zero => obtain rfl : k = 0 := by omega
            rfl
  | succ n ih =>
    by_cases e : k = n + 1
    · rw [e, Nat.mod_eq_of_lt (num_lt l _)]
    · rw [ih (by omega), num_step]
      obtain ⟨d, rfl⟩ : ∃ d, n = k + d := ⟨n - k, by omega⟩
      rw [Nat.pow_add, ← Nat.mul_assoc, Nat.mul_comm (bit1 _), Nat.mul_assoc, Nat.add_mul_mod_self_left]
theorem num_take (l : List UInt8) (q : Nat) : num (l.take q) q = num l q := num_same q fun i hi => by
  rw [List.getD_eq_getElem?_getD, List.getElem?_take_of_lt hi, ← List.getD_eq_getElem?_getD]
end Go.Proofs.YtodldcdfdjooaaaGreatDoor
namespace Go.Proofs.YtodldcdfdjooaaaGreatDoor
open Go Go.RowKit Go.Sort
set_option linter.unusedVariables false
theorem times_step (x y n k : Nat) (h : k < n) : (x * y % 2 ^ n + 2 ^ k * (x % 2 ^ (n - k))) % 2 ^ n = x * (y + 1 * 2 ^ k) % 2 ^ n := by
  have e : 2 ^ k * (x % 2 ^ (n - k)) = 2 ^ k * x % 2 ^ n := by
    have : 2 ^ n = 2 ^ k * 2 ^ (n - k) := by rw [← Nat.pow_add]; congr 1; omega
    rw [this, Nat.mul_mod_mul_left]
  rw [e, ← Nat.add_mod, Nat.mul_add, Nat.one_mul, Nat.mul_comm (2 ^ k)]
theorem bytes_news {w : World} {bl off q : Nat} {l : List UInt8} (hc : ∀ j (hj : j < l.length), w.cell? ⟨bl, off + j, none⟩ = some (.int .u8 (l[j].toNat : Int))) : ∀ j u, (Lib.byteCells (l.take q))[j]? = some u → w.cell? ((⟨bl, off, none⟩ : Addr).add j) = some u := by
  intro j u hu
  unfold Lib.byteCells at hu
  rw [List.getElem?_map, Option.map_eq_some_iff] at hu
  obtain ⟨c, h1, rfl⟩ := hu
  have hj := (List.getElem?_eq_some_iff.1 h1).1
  rw [List.length_take] at hj
  have h2 := hc j (by omega)
  rw [List.getElem?_take_of_lt (by omega), List.getElem?_eq_getElem (by omega)] at h1
  injection h1 with h1
  rw [h1] at h2
  by_cases h0 : j = 0
  · subst h0; first | (simp [Addr.add]; done) | simpa [Addr.add] using h2
  · first | (simp [Addr.add, h0]; done) | simpa [Addr.add, h0] using h2
theorem bytes_one (l : List UInt8) : ∀ u ∈ Lib.byteCells l, u.oneCell' = true := by
  intro u hu
  unfold Lib.byteCells at hu
  obtain ⟨c, _, rfl⟩ := List.mem_map.1 hu
  rfl
theorem times_mid {wr W0 wf wa : World} {vf : Value} {Lf : List UInt8} (h0 : Below wr.heap.size wr W0) (hbf : Below W0.heap.size W0 wf) (hof : Own8 W0.heap.size wf vf Lf) (hga : wf.grownBy wa vf.ownBlock) : Below wr.heap.size wr wa :=
  (h0.trans (hbf.mono h0.size)).grown hga (h0.trans (hbf.mono h0.size)).size (fun k hk => ((hof.mono h0.size).lt k hk).1)
theorem own_k {B B' k : Nat} {wf : World} {vf : Value} {Lf : List UInt8} (hof : Own8 B wf vf Lf) (hlf : Lf.length = k) (hB : B' ≤ B) : wf.ownsRow B' 5 1 vf k (Lib.byteCells Lf) := by
  have := hof.mono hB
  unfold Own8 at this
  rwa [hlf] at this
theorem bytes_len {l : List UInt8} {n q : Nat} (hl : l.length = n) (h : q ≤ n) : (Lib.byteCells (l.take q)).length = q * 1 := by
  unfold Lib.byteCells; rw [List.length_map, List.length_take, hl]; omega
theorem cells_to {w wf : World} {bl off : Nat} {l : List UInt8} (hc : ∀ j (hj : j < l.length), w.cell? ⟨bl, off + j, none⟩ = some (.int .u8 (l[j].toNat : Int))) (hb : Below w.heap.size w wf) : ∀ j (hj : j < l.length), wf.cell? ⟨bl, off + j, none⟩ = some (.int .u8 (l[j].toNat : Int)) := fun j hj =>
  (hb.cell (p := ⟨bl, _, none⟩) (World.block_lt_of_cell? w _ (hc j hj))).trans (hc j hj)
theorem times_row {B ga gc n k x : Nat} {wa : World} {Lf l : List UInt8} (hoa : wa.ownsRow B 5 1 (.slice (some ⟨ga, 0, none⟩) (k + (n - k)) gc) (k + (n - k)) (Lib.byteCells Lf ++ Lib.byteCells (l.take (n - k)))) (hlf : Lf.length = k) (hkf : Kn Lf) (hnf : num Lf k = 0) (hl : l.length = n) (hk : Kn l) (hx : num l n = x) (h : k < n) : RN n (2 ^ k * (x % 2 ^ (n - k))) (.slice (some ⟨ga, 0, none⟩) n gc) wa := by
  have e1 : Lib.byteCells Lf ++ Lib.byteCells (l.take (n - k)) = Lib.byteCells (Lf ++ l.take (n - k)) := by unfold Lib.byteCells; rw [List.map_append]
  have e2 : (Lf ++ l.take (n - k)).length = n := by rw [List.length_append, List.length_take, hl, hlf]; omega
  rw [e1, show k + (n - k) = n by omega] at hoa
  refine ⟨Lf ++ l.take (n - k), row8_own (B := B) (by rw [e2]; exact hoa), e2, fun i hi => ?_, ?_⟩
  · by_cases c : i < Lf.length
    · rw [List.getD_eq_getElem?_getD, List.getElem?_append_left c, ← List.getD_eq_getElem?_getD]; exact hkf i c
    · rw [e2] at hi
      rw [List.getD_eq_getElem?_getD, List.getElem?_append_right (by omega), List.getElem?_take_of_lt (by omega), ← List.getD_eq_getElem?_getD]
      exact hk _ (by omega)
  · have := num_app Lf (l.take (n - k)) (n - k)
    rw [hlf, show k + (n - k) = n by omega, hnf, num_take, num_mod l n (n - k) (by omega), hx, Nat.zero_add] at this
    exact this
set_option maxRecDepth 100000 in
set_option maxHeartbeats 8000000 in
theorem timesR (v u : Value) (n x y : Nat) (h1 : 1 ≤ n) (hn : n ≤ 64) (w : World) (h : RN n x v w) (h' : RN n y u w) :
    Calls Tryz.prog 109 #[v, u] w fun e w' => ∃ r, e = .returned r ∧ NR w.heap.size n (x * y % 2 ^ n) r w' ∧ Below w.heap.size w w' := by
  obtain ⟨i0, hi, hz0, hz1, hz2⟩ := info_parts info5
  have HV := Lib.hid h
  obtain ⟨l, hr, hl, hk, hx⟩ := h
  obtain ⟨m, hr', hm, hk', hy⟩ := h'
  obtain ⟨a, cap, rfl, -⟩ := id hr.sh
  obtain ⟨b, capb, rfl, -⟩ := id hr'.sh
  have hcap := hr.cp _ _ _ rfl
  obtain ⟨bl, off, rfl, -, hc⟩ := row_nth hr (k := 0) (by omega)
  obtain ⟨bm, ofm, rfl, -, hcm⟩ := row_nth hr' (k := 0) (by omega)
  have HC := Lib.hid hc
  have HCM := Lib.hid hcm
  have HK := Lib.hid hk
  have HK' := Lib.hid hk'
  have HX := Lib.hid hx
  have HY := Lib.hid hy
  have HL := Lib.hid hl
  have HM := Lib.hid hm
  rw [hl] at hcap HV ⊢
  rw [hm]
  clear hr hr' hc hcm hk hk' hx hy hl hm
  have hfill := Lib.hid fun w => fillR n (by omega) w
  go_enter Tryz.func109, Tryz.ntmps109
  go_wp2_with fail
  refine (hfill.out _).mono ?_
  rintro e w1 ⟨r, rfl, hr, hb⟩
  have HR := Lib.hid hr
  have HB := Lib.hid hb
  clear hr hb
  go_wp2_with fail
  go_loopw [5, 13] (fun s5 s13 wr => ∃ k : Nat, k ≤ n ∧ s13 = .int .i64 k ∧ NR w.heap.size n (x * num m k % 2 ^ n) s5 wr ∧ Below w.heap.size w wr) (fun _ s13 _ => n - (intOf s13).toNat)
  case atStart => exact ⟨0, Nat.zero_le _, rfl, by show NR _ _ (x * 0 % 2 ^ n) _ _; rw [Nat.mul_zero, Nat.zero_mod]; exact HR.out, HB.out⟩
  case round =>
    obtain ⟨k, hk, rfl, hs, hlo⟩ := hrel
    by_cases hlt : k < n
    · have hkm : k < m.length := by rw [HM.out]; exact hlt
      have hc0 := HCM.out k hkm
      have pc := ((bcell hlo).1 _ _ (World.block_lt_of_cell? w _ hc0)).trans hc0
      have HS := Lib.hid (num_step m k)
      have hbit := HK'.out k hkm
      rw [getD_at hkm] at hbit HS
      have hk0 : (0 : Int) ≤ (k : Int) := by omega
      have hk1 : (k : Int) < (n : Int) := by omega
      clear hc0
      generalize m[k] = c at pc hbit HS
      have HN := Lib.hid hs
      clear hs
      by_cases e : c = 49
      · have t1 : ((c.toNat : Int) == 49) = true := by rw [e]; rfl
        have e1 : bit1 c = 1 := by rw [e]; rfl
        rw [e1] at HS
        have hk2 : (n : Int) - (k : Int) ≤ (cap : Int) := by omega
        have hk3 : (0 : Int) ≤ (n : Int) - (k : Int) := by omega
        have hk4 : ((n : Int) - (k : Int)).toNat = n - k := by omega
        have hk5 : IntKind.i64.wrap ((n - k : Nat) : Int) = ((n - k : Nat) : Int) := by rw [IntKind.wrap_i64]; omega
        have hk7 : ((n - k : Nat) : Int) ≤ (cap : Int) := by omega
        have hk6 : (n : Int) - (k : Int) = ((n - k : Nat) : Int) := by omega
        have HLO := Lib.hid hlo
        clear e e1 hbit
        go_upto_region 6 with fail
        have hL2 := HL.out
        go_region_law (first
          | (go_simp; refine (fillR k (by omega) _).mono ?_; rintro e wf ⟨vf, rfl, ⟨Lf, hof, hlf, hkf, hnf⟩, hbf⟩)
          | (refine step_append_lies _ (by rfl) (.tmp 22) (.tmp 28) 30 (by rfl) w.heap.size 5 i0 (.int .u8 0) 1 1 Tryz.underlying30 hi hz0 hz1 hz2 rfl (by decide) vf k (Lib.byteCells Lf) (by simp [Act.eval]) (own_k hof hlf HLO.out.size) ⟨bl, off, none⟩ (n - k) cap (Lib.byteCells (l.take (n - k))) (by simp [Act.eval]) (bytes_len hL2 (by omega)) (bytes_news (cells_to HC.out ((HLO.out.drew).trans (hbf.mono HLO.out.size)))) (bytes_one _) (by omega) (by unfold maxLen; omega) (by omega) (Nat.le_trans HLO.out.size hbf.size) _ rfl ?_; intro ga gc wa hoa hga hra hla)
          | (go_simp; refine (plusR _ _ n (x * num m k % 2 ^ n) (2 ^ k * (x % 2 ^ (n - k))) (by omega) _ (HN.out.rn.below (times_mid (Below.refl _ _).drew hbf hof hga)) (times_row hoa hlf hkf hnf hL2 HK.out HX.out hlt)).mono ?_; rintro e wp ⟨vp, rfl, hvp, hbp⟩))
        have hmid : Below wr.heap.size wr wa := times_mid (Below.refl _ _).drew hbf hof hga
        have hloa := hlo.trans (hmid.mono hlo.size)
        rw [times_step x (num m k) n k hlt] at hvp
        have HVP : Hid (NR w.heap.size n (x * (num m k + 1 * 2 ^ k) % 2 ^ n) vp wp) := Lib.hid (hvp.mono hloa.size)
        have hlop := hloa.trans (hbp.mono hloa.size)
        clear hvp hbp hoa hga hra hla hof hlf hkf hnf hbf hmid hloa
        go_wp2_with fail
        go_roundw
        case rel => exact ⟨k + 1, by omega, by go_num, by rw [HS.out]; exact HVP.out, hlop⟩
        case measure => simp [intOf]; omega
      · have t1 : ((c.toNat : Int) == 49) = false := beq_eq_false_iff_ne.2 (fun h => e (UInt8.toNat_inj.1 (by simpa using Int.ofNat_inj.1 h)))
        have e1 : bit1 c = 0 := by unfold bit1; rw [if_neg e]
        rw [e1, Nat.zero_mul, Nat.add_zero] at HS
        clear e e1 hbit
        go_wp2_with fail
        go_roundw
        case rel => exact ⟨k + 1, by omega, by go_num, by rw [HS.out]; exact HN.out, hlo⟩
        case measure => simp [intOf]; omega
    · have hkn : k = n := by omega
      have HZ := Lib.hid (show num m k = y from by rw [hkn]; exact HY.out)
      have HN := Lib.hid hs
      clear hkn hs
      go_wp2_with fail
      go_ret
      exact ⟨_, rfl, by rw [← HZ.out]; exact HN.out, hlo⟩
end Go.Proofs.YtodldcdfdjooaaaGreatDoor
namespace Go.Proofs.YtodldcdfdjooaaaGreatDoor
open Go Go.RowKit Go.Sort
set_option linter.unusedVariables false
theorem div_up {h y : Nat} (hy : 0 < y) (b : Nat) (hb : b < 2) :
    (b + 2 * (h % y) < y → (2 * h + b) / y = 2 * (h / y) ∧ (2 * h + b) % y = b + 2 * (h % y)) ∧
    (¬ b + 2 * (h % y) < y → (2 * h + b) / y = 2 * (h / y) + 1 ∧ (2 * h + b) % y = b + 2 * (h % y) - y) := by
  have hm := Nat.mod_lt h hy
  have hd := Nat.div_add_mod h y
  have e : 2 * h + b = (b + 2 * (h % y)) + y * (2 * (h / y)) := by
    have h3 : 2 * h = 2 * (y * (h / y)) + 2 * (h % y) := by omega
    have h4 : y * (2 * (h / y)) = 2 * (y * (h / y)) := by rw [← Nat.mul_assoc, Nat.mul_comm y 2, Nat.mul_assoc]
    rw [h3, h4]; omega
  rw [e, Nat.add_mul_div_left _ _ hy, Nat.add_mul_mod_self_left]
  refine ⟨fun c => ⟨by rw [Nat.div_eq_of_lt c, Nat.zero_add], Nat.mod_eq_of_lt c⟩, fun c => ?_⟩
  have c2 : b + 2 * (h % y) < 2 * y := by omega
  have e1 : (b + 2 * (h % y)) / y = 1 := Nat.div_eq_of_lt_le (by omega) (by omega)
  have e2 : (b + 2 * (h % y)) % y = b + 2 * (h % y) - y := by
    rw [Nat.mod_eq_sub_mod (by omega), Nat.mod_eq_of_lt (by omega)]
  exact ⟨by rw [e1]; omega, e2⟩
theorem bit_of {l : List UInt8} {n k x : Nat} (hx : num l n = x) (h : k < n) : x / 2 ^ k = 2 * (x / 2 ^ (k + 1)) + bit1 (l.getD k 0) ∧ bit1 (l.getD k 0) < 2 := by
  have h1 := num_mod l n k (by omega)
  have h2 := num_mod l n (k + 1) (by omega)
  rw [num_step, h1, hx, Nat.mod_pow_succ] at h2
  have hp : 0 < 2 ^ k := Nat.two_pow_pos k
  have e : bit1 (l.getD k 0) = x / 2 ^ k % 2 := by
    have h3 : bit1 (l.getD k 0) * 2 ^ k = 2 ^ k * (x / 2 ^ k % 2) := by omega
    rw [Nat.mul_comm] at h3
    exact Nat.eq_of_mul_eq_mul_left hp h3
  rw [e, Nat.pow_succ, ← Nat.div_div_eq_div_mul]
  omega
/-- the row that is made of one state and a row -/
theorem cons_row {B g cap n x : Nat} {w : World} {z : UInt8} {r : List UInt8} (ho : w.ownsRow B 5 1 (.slice (some ⟨g, 0, none⟩) (1 + n) cap) (1 + n) ([Value.int .u8 z.toNat] ++ Lib.byteCells (r.take n))) (hr : r.length = n + 1) (hk : Kn r) (hz : z = 48 ∨ z = 49) (hx : num r n = x) :
    NR B (n + 1) (bit1 z + 2 * x) (.slice (some ⟨g, 0, none⟩) (n + 1) cap) w := by
  have e1 : [Value.int .u8 z.toNat] ++ Lib.byteCells (r.take n) = Lib.byteCells (z :: r.take n) := rfl
  have e2 : (z :: r.take n).length = n + 1 := by rw [List.length_cons, List.length_take, hr]; omega
  rw [e1, Nat.add_comm 1 n] at ho
  refine ⟨z :: r.take n, by unfold Own8; rw [e2]; exact ho, e2, fun i hi => ?_, ?_⟩
  · cases i with
    | zero => exact hz
    | succ i =>
      rw [e2] at hi
      have e9 : (z :: r.take n).getD (i + 1) 0 = r.getD i 0 := by
        show (r.take n).getD i 0 = _
        rw [List.getD_eq_getElem?_getD, List.getElem?_take_of_lt (by omega), ← List.getD_eq_getElem?_getD]
      rw [e9]; exact hk i (by omega)
  · have := num_app [z] (r.take n) n
    rw [num_take, hx] at this
    have e3 : num [z] [z].length = bit1 z := by
      show num [z] (0 + 1) = _
      rw [num_step]; show 0 + bit1 z * 2 ^ 0 = _; omega
    rw [e3] at this
    show num ([z] ++ r.take n) (n + 1) = _
    rw [Nat.add_comm n 1]; exact this
theorem take_rn {n x : Nat} {w : World} {g cap : Nat} (h : RN (n + 1) x (.slice (some ⟨g, 0, none⟩) (n + 1) cap) w) (h1 : 1 ≤ n) (hx : x < 2 ^ n) : RN n x (.slice (some ⟨g, 0, none⟩) n cap) w := by
  obtain ⟨L, hr, hl, hk, hn⟩ := h
  obtain ⟨bl, off, hb, -, hc⟩ := row_nth hr (k := 0) (by omega)
  have hcap := hr.cp _ _ _ rfl
  injection hb with hb
  injection hb with e1 e2
  subst e1 e2
  have hlen : (L.take n).length = n := by rw [List.length_take, hl]; omega
  refine ⟨L.take n, ⟨⟨some ⟨g, 0, none⟩, cap, by rw [hlen], .inr ⟨g, 0, rfl, fun q hq => ?_⟩⟩, fun a m c e => by injection e; omega⟩, hlen, fun i hi => ?_, ?_⟩
  · rw [hlen] at hq
    rw [List.getElem_take]; exact hc q (by omega)
  · rw [hlen] at hi
    rw [List.getD_eq_getElem?_getD, List.getElem?_take_of_lt hi, ← List.getD_eq_getElem?_getD]
    exact hk i (by omega)
  · rw [num_take, num_mod L (n + 1) n (by omega), hn, Nat.mod_eq_of_lt hx]
theorem num_set {Q : List UInt8} {k : Nat} (hk : k < Q.length) (h48 : Q.getD k 0 = 48) : ∀ j, num (Q.set k 49) j = num Q j + if k < j then 2 ^ k else 0
  | 0 => by show 0 = 0 + _; rw [if_neg (by omega)]
  | j + 1 => by
    rw [num_step, num_step, num_set hk h48 j]
    by_cases e : k = j
    · subst e
      have e1 : (Q.set k 49).getD k 0 = 49 := by rw [List.getD_eq_getElem?_getD, List.getElem?_set_self hk]; rfl
      rw [e1, h48, if_neg (by omega), if_pos (by omega)]
      simp [bit1]
    · have e1 : (Q.set k 49).getD j 0 = Q.getD j 0 := by rw [List.getD_eq_getElem?_getD, List.getElem?_set_ne e, ← List.getD_eq_getElem?_getD]
      rw [e1]
      by_cases c : k < j
      · rw [if_pos c, if_pos (by omega)]; omega
      · rw [if_neg c, if_neg (by omega)]; omega
/-- what the loop's variables hold: the quotient's row, the divisor with a nought behind it -/
structure OX (w : World) (n x y j bq cq : Nat) (vw : Value) (wr : World) : Prop where
  q : ∃ Q : List UInt8, Own8 w.heap.size wr (.slice (some ⟨bq, 0, none⟩) n cq) Q ∧ Q.length = n ∧ Kn Q ∧ (∀ i, i < j → Q.getD i 0 = 48) ∧ num Q n = x / 2 ^ j / y * 2 ^ j
  wd : NR (bq + 1) (n + 1) y vw wr
  lo : Below w.heap.size w wr
  le : w.heap.size ≤ bq
theorem OX.below {w : World} {n x y j bq cq : Nat} {vw : Value} {wr wr' : World} (h : OX w n x y j bq cq vw wr) (hb : Below wr.heap.size wr wr') : OX w n x y j bq cq vw wr' := by
  obtain ⟨Q, h1, h2⟩ := h.q
  exact ⟨⟨Q, h1.below hb, h2⟩, h.wd.below hb, h.lo.trans (hb.mono h.lo.size), h.le⟩
theorem OX.less {w : World} {n x y k bq cq : Nat} {vw : Value} {wr : World} (h : OX w n x y (k + 1) bq cq vw wr) (e : x / 2 ^ k / y = 2 * (x / 2 ^ (k + 1) / y)) : OX w n x y k bq cq vw wr := by
  obtain ⟨Q, h1, h2, h3, h4, h5⟩ := h.q
  exact ⟨⟨Q, h1, h2, h3, fun i hi => h4 i (by omega), by rw [h5, e, Nat.pow_succ, Nat.mul_comm 2, Nat.mul_assoc, Nat.mul_comm 2]⟩, h.wd, h.lo, h.le⟩
theorem NR.setb {B n x bq j : Nat} {v : Value} {w : World} (h : NR B n x v w) (hb : bq < B) (u : Value) : NR B n x v (w.setCell ⟨bq, j, none⟩ u) := by
  obtain ⟨L, h1, h2⟩ := h
  exact ⟨L, ownsRow_setCell_below h1 (by exact hb) u, h2⟩
theorem OX.set {w : World} {n x y k bq cq : Nat} {vw : Value} {wr : World} (h : OX w n x y (k + 1) bq cq vw wr) (hk : k < n) (e : x / 2 ^ k / y = 2 * (x / 2 ^ (k + 1) / y) + 1) : OX w n x y k bq cq vw (wr.setCell ⟨bq, k, none⟩ (.int .u8 49)) := by
  obtain ⟨Q, h1, h2, h3, h4, h5⟩ := h.q
  unfold Own8 at h1
  rw [h2] at h1
  have hs := (World.ownsRow.stored h1 k (.int .u8 49)).1
  have eb : (Lib.byteCells Q).set k (.int .u8 49) = Lib.byteCells (Q.set k 49) := by unfold Lib.byteCells; rw [List.map_set]; rfl
  rw [eb] at hs
  have hl : (Q.set k 49).length = n := by rw [List.length_set]; exact h2
  refine ⟨⟨Q.set k 49, by unfold Own8; rw [hl]; exact hs, hl, fun i hi => ?_, fun i hi => ?_, ?_⟩, h.wd.setb (Nat.lt_succ_self _) _, h.lo.setCell h.le _, h.le⟩
  · rw [hl] at hi
    by_cases c : k = i
    · subst c; rw [List.getD_eq_getElem?_getD, List.getElem?_set_self (by omega)]; exact .inr rfl
    · rw [List.getD_eq_getElem?_getD, List.getElem?_set_ne c, ← List.getD_eq_getElem?_getD]; exact h3 i (by omega)
  · rw [List.getD_eq_getElem?_getD, List.getElem?_set_ne (by omega), ← List.getD_eq_getElem?_getD]; exact h4 i (by omega)
  · rw [num_set (by omega) (h4 k (by omega)), if_pos hk, h5, e, Nat.pow_succ, Nat.add_mul, Nat.one_mul, Nat.mul_comm 2, Nat.mul_assoc, Nat.mul_comm 2]
theorem one_own9 {W : World} {B : Nat} (x : UInt8) (hB : B ≤ W.heap.size) : (W.alloc (Obj.cells #[Value.int IntKind.u8 x.toNat] 5)).ownsRow B 5 1 (.slice (some ⟨W.heap.size, 0, none⟩) 1 1) 1 [.int .u8 x.toNat] :=
  ⟨rfl, .inr ⟨W.heap.size, 1, #[.int .u8 x.toNat], rfl, hB, by show (W.heap.push _)[W.heap.size]? = _; exact Array.getElem?_push_size, Nat.le_refl _, by unfold maxLen; omega, rfl, rfl⟩⟩
theorem zero_bits {Q : List UInt8} {n : Nat} (hk : Kn Q) (hl : Q.length = n) (h0 : num Q n = 0) : ∀ i, i < n → Q.getD i 0 = 48 := fun i hi => by
  have h := (bit_of h0 hi).1
  rw [Nat.zero_div, Nat.zero_div] at h
  rcases hk i (by omega) with e | e
  · exact e
  · rw [e] at h; simp [bit1] at h
theorem empty_own {W : World} {B : Nat} (hB : B ≤ W.heap.size) : (W.alloc (Obj.cells #[] 5)).ownsRow B 5 1 (.slice (some ⟨W.heap.size, 0, none⟩) 0 0) 0 [] :=
  ⟨rfl, .inr ⟨W.heap.size, 0, #[], rfl, hB, by show (W.heap.push _)[W.heap.size]? = _; exact Array.getElem?_push_size, Nat.le_refl _, by unfold maxLen; omega, rfl, rfl⟩⟩
theorem wide_row {B n y : Nat} {w : World} {v : Value} {m : List UInt8} (ho : w.ownsRow B 5 1 v (n + 1) (Lib.byteCells (m.take n) ++ [Value.int .u8 48])) (hm : m.length = n) (hk : Kn m) (hy : num m n = y) : NR B (n + 1) y v w := by
  have e0 : m.take n = m := List.take_of_length_le (by omega)
  have e1 : Lib.byteCells (m.take n) ++ [Value.int .u8 48] = Lib.byteCells (m ++ [48]) := by rw [e0]; unfold Lib.byteCells; rw [List.map_append]; rfl
  have e2 : (m ++ [48]).length = n + 1 := by rw [List.length_append, hm]; rfl
  rw [e1] at ho
  refine ⟨m ++ [48], by unfold Own8; rw [e2]; exact ho, e2, fun i hi => ?_, ?_⟩
  · rw [e2] at hi
    by_cases c : i < m.length
    · rw [List.getD_eq_getElem?_getD, List.getElem?_append_left c, ← List.getD_eq_getElem?_getD]; exact hk i c
    · obtain rfl : i = m.length := by omega
      rw [getD_last]; exact .inl rfl
  · have := num_app m [48] 1
    rw [hm, hy] at this
    rw [this]
    have e3 : num [48] 1 = 0 := by show num [48] (0 + 1) = 0; rw [num_step]; rfl
    rw [e3]; omega
set_option maxRecDepth 100000 in
set_option maxHeartbeats 16000000 in
theorem overR (v u : Value) (n x y : Nat) (h1 : 1 ≤ n) (hn : n ≤ 64) (hy0 : 0 < y) (w : World) (h : RN n x v w) (h' : RN n y u w) :
    Calls Tryz.prog 129 #[v, u] w fun e w' => ∃ q r, e = .returned (.tuple #[q, r]) ∧ RN n (x / y) q w' ∧ RN n (x % y) r w' ∧ Below w.heap.size w w' := by
  obtain ⟨i0, hi, hz0, hz1, hz2⟩ := info_parts info5
  have hylt := h'.lt
  have hxlt := h.lt
  obtain ⟨l, hr, hl, hk, hx⟩ := h
  obtain ⟨m, hr', hm, hk', hy⟩ := h'
  obtain ⟨a, cap, rfl, -⟩ := id hr.sh
  obtain ⟨b, capb, rfl, -⟩ := id hr'.sh
  obtain ⟨bl, off, rfl, -, hc⟩ := row_nth hr (k := 0) (by omega)
  obtain ⟨bm, ofm, rfl, -, hcm⟩ := row_nth hr' (k := 0) (by omega)
  have HC := Lib.hid hc
  have HCM := Lib.hid hcm
  have HK := Lib.hid hk
  have HK' := Lib.hid hk'
  have HX := Lib.hid hx
  have HY := Lib.hid hy
  have HL := Lib.hid hl
  have HM := Lib.hid hm
  rw [hl, hm]
  clear hr hr' hc hcm hk hk' hx hy hl hm
  have hf1 := Lib.hid fun w => fillR n (by omega) w
  have hf2 := Lib.hid fun w => (show Calls Tryz.prog 68 #[.int .i64 ((n : Int) + 1), .int .u8 48] w _ from fillR (n + 1) (by omega) w)
  go_enter Tryz.func129, Tryz.ntmps129
  go_wp2_with fail
  refine (hf1.out _).mono ?_
  rintro e w1 ⟨vq, rfl, ⟨Q, hq, hql, hqk, hqn⟩, hb1⟩
  obtain ⟨bq, cq, rfl, hbq, hbq2⟩ := World.ownsRow.form (w := w1) hq (by omega)
  rw [hql] at hq ⊢
  have HQ := Lib.hid hq
  have HQK := Lib.hid hqk
  have HQN := Lib.hid hqn
  have HQL := Lib.hid hql
  have HB1 := Lib.hid hb1
  clear hq hqk hqn hql hb1
  go_wp2_with fail
  refine (hf2.out _).mono ?_
  rintro e w2 ⟨vr, rfl, hr0, hb2⟩
  have HR0 := Lib.hid hr0
  have HB2 := Lib.hid hb2
  have lo2 : Below w.heap.size w w2 := HB1.out.trans (hb2.mono HB1.out.size)
  clear hr0 hb2
  have hbq3 : bq + 1 ≤ w2.heap.size := Nat.le_trans hbq2 HB2.out.size
  have hM2 := HM.out
  go_wp2_with (at_builtin; refine wpList_append_own _ rfl _ _ 30 rfl w2.heap.size 5 i0 (.int .u8 0) 1 1 Tryz.underlying30 hi hz0 hz1 hz2 rfl (by decide) _ _ _ rfl (empty_own (Nat.le_refl _)) ⟨bm, ofm, none⟩ n capb (Lib.byteCells (m.take n)) rfl (bytes_len hM2 (Nat.le_refl _)) (bytes_news (cells_to HCM.out (lo2.alloc lo2.size _))) (bytes_one _) ?d3 ?d4 ?d5 ?_)
  case d3 => unfold maxLen; omega
  case d4 => omega
  case d5 => simp
  intro v3 w3 hown3 hgr3 _
  have lo3 : Below w2.heap.size w2 w3 := ((Below.refl w2.heap.size w2).alloc (Nat.le_refl _) _).grown hgr3 (by simp) (fun k hk => ((empty_own (Nat.le_refl _)).lt k hk).1)
  go_wp2_with (at_builtin; refine wpList_append_own _ rfl _ _ 30 rfl w2.heap.size 5 i0 (.int .u8 0) 1 1 Tryz.underlying30 hi hz0 hz1 hz2 rfl (by decide) _ _ _ rfl (hown3.alloc _) ⟨w3.heap.size, 0, none⟩ 1 1 [.int .u8 48] rfl rfl (fun q u hq => by match q, hq with | 0, hq => (simp at hq; subst hq; simp [Addr.add])) (fun u hu => by simp at hu; subst hu; rfl) ?e3 ?e4 ?e5 ?_)
  case e3 => unfold maxLen; omega
  case e4 => omega
  case e5 => have := lo3.size; simp; omega
  intro v4 w4 hown4 hgr4 _
  have lo4 : Below w2.heap.size w2 w4 := (lo3.alloc lo3.size _).grown hgr4 (by have := lo3.size; simp; omega) (fun k hk => (hown3.lt k hk).1)
  have HWD : Hid (NR (bq + 1) (n + 1) y v4 w4) := Lib.hid ((wide_row hown4 hM2 HK'.out HY.out).mono hbq3)
  clear hown3 hgr3 hown4 hgr4 lo3
  have lo5 : Below w.heap.size w w4 := lo2.trans (lo4.mono lo2.size)
  have O0 : OX w n x y n bq cq v4 w4 :=
    ⟨⟨Q, (HQ.out.below HB2.out).below lo4, HQL.out, HQK.out, zero_bits HQK.out HQL.out HQN.out, by rw [HQN.out, Nat.div_eq_of_lt hxlt, Nat.zero_div, Nat.zero_mul]⟩, HWD.out, lo5, hbq⟩
  have R0 : NR (bq + 1) (n + 1) (x / 2 ^ n % y) vr w4 := by
    rw [Nat.div_eq_of_lt hxlt, Nat.zero_mod]; exact (HR0.out.mono (by omega)).below lo4
  clear lo4 lo2 lo5 HR0 HB2 HQ HQK HQN HQL HB1 HWD hf1 hf2
  have HYL := Lib.hid hylt
  have HXL := Lib.hid hxlt
  clear hylt hxlt
  go_wp2_with fail
  go_loopw [7, 9] (fun s7 s9 wr => ∃ j : Nat, j ≤ n ∧ s9 = .int .i64 ((j : Int) - 1) ∧ NR (bq + 1) (n + 1) (x / 2 ^ j % y) s7 wr ∧ OX w n x y j bq cq v4 wr) (fun _ s9 _ => (intOf s9 + 1).toNat)
  case atStart => exact ⟨n, Nat.le_refl _, by first | rfl | go_num, R0, O0⟩
  case round =>
    clear R0 O0
    obtain ⟨j, hj, rfl, hrn, hox⟩ := hrel
    have HO := Lib.hid hox
    have HRN := Lib.hid hrn
    clear hrn hox
    cases j with
    | zero =>
      obtain ⟨Lr, hor, hlr, hkr, hnr⟩ := HRN.out
      obtain ⟨gr, cr, rfl, hgr, hgr2⟩ := World.ownsRow.form (w := wr) hor (by omega)
      have hcr := own_cap hor _ _ _ rfl
      rw [hlr] at hcr HRN ⊢
      have hcr2 : (n : Int) ≤ (cr : Int) := by omega
      have HR9 := Lib.hid (HRN.out.rn)
      clear hor hlr hkr hnr hgr hgr2 HRN
      go_upto_region 10 with fail
      have hox := HO.out.below ((Below.refl wr.heap.size wr).drew)
      have hr9 := HR9.out.below ((Below.refl wr.heap.size wr).drew)
      go_region
      rw [Nat.pow_zero, Nat.div_one] at hr9
      have hr10 := take_rn hr9 h1 (Nat.lt_trans (Nat.mod_lt _ hy0) HYL.out)
      obtain ⟨Q9, q1, q2, q3, q4, q5⟩ := hox.q
      rw [Nat.pow_zero, Nat.div_one, Nat.mul_one] at q5
      have hq10 : RN n (x / y) (.slice (some ⟨bq, 0, none⟩) n cq) wr.drew := ⟨Q9, q1.row, q2, q3, q5⟩
      have hl9 := hox.lo
      clear hox hr9 q1 q2 q3 q4 q5 HO HR9
      go_wp2_with fail
      go_ret2
      exact ⟨_, _, rfl, hq10, hr10, hl9⟩
    | succ k =>
      obtain ⟨Lr, hor, hlr, hkr, hnr⟩ := HRN.out
      obtain ⟨gr, cr, rfl, hgr, hgr2⟩ := World.ownsRow.form (w := wr) hor (by omega)
      have hcr := own_cap hor _ _ _ rfl
      have hcel : ∀ j (hj : j < Lr.length), wr.cell? ⟨gr, 0 + j, none⟩ = some (.int .u8 (Lr[j].toNat : Int)) := by
        obtain ⟨b1, o1, e1, -, h⟩ := row_nth hor.row (k := 0) (by omega)
        injection e1 with e1
        injection e1 with e2 e3
        subst e2 e3
        exact h
      rw [hlr] at hcr HRN ⊢
      have HCEL := Lib.hid hcel
      have hkl : k < l.length := by rw [HL.out]; omega
      have hc0 := HC.out k hkl
      have hlo := HO.out.lo
      have pc := ((bcell hlo).1 _ _ (World.block_lt_of_cell? w _ hc0)).trans hc0
      obtain ⟨hbt, hbt2⟩ := bit_of HX.out (show k < n by omega)
      have hz9 := HK.out k hkl
      rw [getD_at hkl] at hbt hbt2 hz9
      have HBT := Lib.hid hbt
      have HBT2 := Lib.hid hbt2
      have HZ9 := Lib.hid hz9
      have HLR := Lib.hid hlr
      have HKR := Lib.hid hkr
      have HNR : Hid (num Lr n = x / 2 ^ (k + 1) % y) := by
        refine Lib.hid ?_
        rw [num_mod Lr (n + 1) n (by omega), hnr, Nat.mod_eq_of_lt (Nat.lt_trans (Nat.mod_lt _ hy0) HYL.out)]
      have hcr2 : (n : Int) ≤ (cr : Int) := by omega
      have hk0 : (0 : Int) ≤ (k : Int) := by omega
      have hk1 : (k : Int) < (n : Int) := by omega
      have hbw : bq + 1 ≤ wr.heap.size := by omega
      have ek : ((k + 1 : Nat) : Int) - 1 = (k : Int) := by omega
      rw [ek]
      clear hc0 hor hlr hkr hnr hgr hgr2 hcel HRN ek hlo hbt hbt2 hz9
      generalize l[k] = z at pc HBT HBT2 HZ9
      go_upto_region 6 with fail
      go_region_law (refine step_append_lies _ (by rfl) (.tmp 33) (.tmp 37) 30 (by rfl) (bq + 1) 5 i0 (.int .u8 0) 1 1 Tryz.underlying30 hi hz0 hz1 hz2 rfl (by decide) (.slice (some ⟨wr.heap.size, 0, none⟩) 1 1) 1 [.int .u8 z.toNat] (by simp [Act.eval]) (one_own9 (W := wr.drew) z hbw) ⟨gr, 0, none⟩ n cr (Lib.byteCells (Lr.take n)) (by simp [Act.eval]) (bytes_len HLR.out (by omega)) (bytes_news (cells_to HCEL.out ((Below.refl wr.heap.size wr).drew.alloc (Nat.le_refl _) _))) (bytes_one _) (by omega) (by unfold maxLen; omega) (by omega) (by simp; omega) _ rfl ?_; intro ga gc wa hoa hga hra hla)
      have hmid : Below wr.heap.size wr wa := ((Below.refl wr.heap.size wr).drew.alloc (Nat.le_refl _) _).grown hga (by simp) (fun k hk => ((one_own9 (W := wr.drew) z (Nat.le_refl _)).lt k hk).1)
      have hox := HO.out.below hmid
      have hr1 := cons_row hoa HLR.out HKR.out HZ9.out HNR.out
      rw [Nat.add_comm 1 n]
      clear hoa hga hra hla hmid HO HCEL HLR HKR HNR pc
      have hbel := belowR _ v4 (n + 1) _ y (by omega) wa hr1.rn hox.wd.rn
      have HD := Lib.hid (div_up (h := x / 2 ^ (k + 1)) hy0 (bit1 z) HBT2.out)
      obtain ⟨t, ht⟩ : ∃ t, decide (bit1 z + 2 * (x / 2 ^ (k + 1) % y) < y) = t := ⟨_, rfl⟩
      rw [ht] at hbel
      go_wp2_with fail
      refine hbel.mono ?_
      rintro e wb ⟨rfl, hbb⟩
      have HOX := Lib.hid (hox.below hbb)
      have HR1 := Lib.hid (hr1.below hbb)
      clear hox hr1 hbb hbel
      cases t
      · have hnl := of_decide_eq_false ht
        obtain ⟨d1, d2⟩ := HD.out.2 hnl
        rw [← HBT.out] at d1 d2
        have hmin := minusR _ v4 (n + 1) _ y (by omega) wb HR1.out.rn HOX.out.wd.rn
        have hw1 : bq + 1 ≤ wb.heap.size := by
          obtain ⟨Lw, ow, lw, -⟩ := HR1.out
          obtain ⟨gw, cw, -, g1, g2⟩ := World.ownsRow.form (w := wb) ow (by omega)
          omega
        have esub : (bit1 z + 2 * (x / 2 ^ (k + 1) % y) + (2 ^ (n + 1) - y)) % 2 ^ (n + 1) = x / 2 ^ k % y := by
          have hr := HR1.out.rn.lt
          have hyy : y < 2 ^ (n + 1) := Nat.lt_trans HYL.out (Nat.pow_lt_pow_right (by decide) (by omega))
          rw [d2, show bit1 z + 2 * (x / 2 ^ (k + 1) % y) + (2 ^ (n + 1) - y) = (bit1 z + 2 * (x / 2 ^ (k + 1) % y) - y) + 2 ^ (n + 1) by omega, Nat.add_mod_right, Nat.mod_eq_of_lt (by omega)]
        rw [esub] at hmin
        have HMIN := Lib.hid hmin
        have D1 := Lib.hid d1
        clear hmin d1 d2 esub ht hnl HD HBT HBT2 HR1
        go_wp2_with fail
        refine HMIN.out.mono ?_
        rintro e wc ⟨vm, rfl, hvm, hbm⟩
        have hoc := HOX.out.below hbm
        have HVM := Lib.hid (hvm.mono hw1)
        obtain ⟨Q8, q1, q2, q3, q4, q5⟩ := hoc.q
        have hcell : wc.cell? ⟨bq, k, none⟩ = some (.int .u8 48) := by
          obtain ⟨b1, o1, e1, -, h⟩ := row_nth q1.row (k := k) (by omega)
          injection e1 with e1
          injection e1 with e2 e3
          subst e2 e3
          have h8 := h k (by omega)
          have e8 : Q8[k]'(by omega) = 48 := by rw [← getD_at (by omega)]; exact q4 k (by omega)
          rw [e8, Nat.zero_add] at h8
          exact h8
        have hfz : wc.frozen? ⟨bq, k, none⟩ = false := by
          unfold Own8 at q1
          rw [q2] at q1
          exact World.ownsRow.frozenAt q1 k
        have HOC := Lib.hid (hoc.set (by omega) D1.out)
        clear hoc hvm hbm q1 q2 q3 q4 q5 HOX
        go_wp2_with fail
        have hvm2 := HVM.out.setb (j := k) (Nat.lt_succ_self bq) (.int .u8 49)
        go_roundw
        case rel => exact ⟨k, by omega, by go_num, hvm2, HOC.out⟩
        case measure => simp [intOf]
      · have hl := of_decide_eq_true ht
        obtain ⟨d1, d2⟩ := HD.out.1 hl
        rw [← HBT.out] at d1 d2
        have HR2 : Hid (NR (bq + 1) (n + 1) (x / 2 ^ k % y) (.slice (some ⟨ga, 0, none⟩) (n + 1) gc) wb) := by rw [d2]; exact HR1
        have HO2 := Lib.hid (HOX.out.less d1)
        clear d1 d2 ht hl HD HBT HBT2 HR1 HOX
        go_wp2_with fail
        go_roundw
        case rel => exact ⟨k, by omega, by go_num, HR2.out, HO2.out⟩
        case measure => simp [intOf]
end Go.Proofs.YtodldcdfdjooaaaGreatDoor
namespace Go.Proofs.YtodldcdfdjooaaaGreatDoor
open Go Go.RowKit Go.Sort
set_option linter.unusedVariables false
def sgB (n : Nat) (s : Bool) (x : Nat) : Bool := s && decide (2 ^ (n - 1) ≤ x)
def ngN (n x : Nat) : Nat := (0 + (2 ^ n - x)) % 2 ^ n
def mgN (n : Nat) (c : Bool) (x : Nat) : Nat := if c then ngN n x else x
def shQ (n : Nat) (s : Bool) (x y : Nat) : Nat := mgN n (sgB n s x != sgB n s y) (mgN n (sgB n s x) x / mgN n (sgB n s y) y)
def shM (n : Nat) (s : Bool) (x y : Nat) : Nat := mgN n (sgB n s x) (mgN n (sgB n s x) x % mgN n (sgB n s y) y)
theorem top_bit {l : List UInt8} {n x : Nat} (h1 : 1 ≤ n) (hk : Kn l) (hl : l.length = n) (hx : num l n = x) : (l.getD (n - 1) 0 == 49) = decide (2 ^ (n - 1) ≤ x) := by
  obtain ⟨q, rfl⟩ : ∃ q, n = q + 1 := ⟨n - 1, by omega⟩
  have a1 := num_lt l q
  rw [num_step] at hx
  rw [Nat.add_sub_cancel]
  rcases hk q (by omega) with e | e <;> rw [e] at hx ⊢
  · have : ¬ 2 ^ q ≤ x := by simp [bit1] at hx; omega
    rw [decide_eq_false this]; rfl
  · have : 2 ^ q ≤ x := by simp [bit1] at hx; omega
    rw [decide_eq_true this]; rfl
theorem mg_pos {n : Nat} {c : Bool} {x : Nat} (h0 : 0 < x) (hx : x < 2 ^ n) : 0 < mgN n c x := by
  unfold mgN ngN; split
  · rw [Nat.zero_add, Nat.mod_eq_of_lt (by omega)]; omega
  · exact h0
set_option maxRecDepth 100000 in
set_option maxHeartbeats 16000000 in
theorem sharedR (v u : Value) (n x y : Nat) (s : Bool) (h1 : 1 ≤ n) (hn : n ≤ 64) (hy0 : 0 < y) (w : World) (h : RN n x v w) (h' : RN n y u w) :
    Calls Tryz.prog 110 #[v, u, .bool s] w fun e w' => ∃ q r, e = .returned (.tuple #[q, r]) ∧ RN n (shQ n s x y) q w' ∧ RN n (shM n s x y) r w' ∧ Below w.heap.size w w' := by
  have hylt := h'.lt
  have hmy := mg_pos (c := sgB n s y) hy0 hylt
  have HV := Lib.hid h
  have HV' := Lib.hid h'
  obtain ⟨l, hr, hl, hk, hx⟩ := h
  obtain ⟨m, hr', hm, hk', hy⟩ := h'
  obtain ⟨a, cap, rfl, -⟩ := id hr.sh
  obtain ⟨b, capb, rfl, -⟩ := id hr'.sh
  obtain ⟨bl, off, rfl, -, hc⟩ := row_nth hr (k := 0) (by omega)
  obtain ⟨bm, ofm, rfl, -, hcm⟩ := row_nth hr' (k := 0) (by omega)
  have tx := top_bit h1 hk hl hx
  have ty := top_bit h1 hk' hm hy
  have pa := hc (n - 1) (by omega)
  have pb := hcm (n - 1) (by omega)
  rw [← getD_at (by omega)] at pa pb
  have HPA := Lib.hid pa
  have HPB := Lib.hid pb
  rw [hl] at HV ⊢
  rw [hm] at HV' ⊢
  clear hr hr' hc hcm hk hk' hx hy hl hm pa pb
  have hsx : sgB n s x = (s && (l.getD (n - 1) 0 == 49)) := by unfold sgB; rw [tx]
  have hsy : sgB n s y = (s && (m.getD (n - 1) 0 == 49)) := by unfold sgB; rw [ty]
  have HQ : Hid (shQ n s x y = mgN n (sgB n s x != sgB n s y) (mgN n (sgB n s x) x / mgN n (sgB n s y) y)) := rfl
  have HM : Hid (shM n s x y = mgN n (sgB n s x) (mgN n (sgB n s x) x % mgN n (sgB n s y) y)) := rfl
  generalize sgB n s x = na at hsx HQ HM
  generalize sgB n s y = nb at hsy HQ HM hmy
  generalize l.getD (n - 1) 0 = xa at HPA hsx
  generalize m.getD (n - 1) 0 = xb at HPB hsy
  generalize shQ n s x y = rq at HQ ⊢
  generalize shM n s x y = rr at HM ⊢
  have byte49 : ∀ c : UInt8, ((c.toNat : Int) == 49) = (c == 49) := fun c => by
    rw [Bool.eq_iff_iff, beq_iff_eq, beq_iff_eq]
    exact ⟨fun h => UInt8.toNat_inj.1 (by simpa using Int.ofNat_inj.1 h), fun h => by rw [h]; rfl⟩
  rw [← byte49] at hsx hsy
  have HSX := Lib.hid hsx
  have HSY := Lib.hid hsy
  have HY := Lib.hid hmy
  clear tx ty hsx hsy byte49 hylt hmy hy0
  have hf := Lib.hid fun w => fillR n (by omega) w
  go_enter Tryz.func110, Tryz.ntmps110
  go_wp2_with fail
  refine (hf.out _).mono ?_
  rintro e w1 ⟨z, rfl, hz, hb1⟩
  have pa := (hb1.cell (p := ⟨bl, _, none⟩) (World.block_lt_of_cell? w _ HPA.out)).trans HPA.out
  have pb := (hb1.cell (p := ⟨bm, _, none⟩) (World.block_lt_of_cell? w _ HPB.out)).trans HPB.out
  have k0 : (0 : Int) ≤ (n : Int) - 1 := by omega
  have HZ := Lib.hid hz.rn
  have HB1 := Lib.hid hb1
  clear hz hb1 hf
  go_upto_region 2 with fail
  go_cut [9, 10] (fun s9 s10 wx => ∃ wq : World, wq = wx ∧ s9 = .bool na ∧ s10 = .bool nb ∧ Below w1.heap.size w1 wx)
  case first =>
    obtain ⟨ta, hta⟩ : ∃ t, ((xa.toNat : Int) == 49) = t := ⟨_, rfl⟩
    obtain ⟨tb, htb⟩ : ∃ t, ((xb.toNat : Int) == 49) = t := ⟨_, rfl⟩
    rw [hta] at HSX
    rw [htb] at HSY
    cases s <;> cases ta <;> cases tb <;>
    · go_region
      go_wp2_with fail
      go_meet
      exact ⟨_, rfl, by rw [HSX.out]; rfl, by rw [HSY.out]; rfl, (Below.refl _ _).drew⟩
  case rest =>
  obtain ⟨wq, hwq, rfl, rfl, hbq⟩ := hcut
  subst hwq
  have HZ2 := Lib.hid (HZ.out.below hbq)
  have lo := HB1.out.trans (hbq.mono HB1.out.size)
  have HA2 := Lib.hid (HV.out.below lo)
  have HB2 := Lib.hid (HV'.out.below lo)
  have HLO := Lib.hid lo
  clear lo hbq pa pb HZ HB1 HV HV' HPA HPB HSX HSY
  cases na <;> cases nb
  · skip
    go_wp2_with fail
    refine (overR _ _ n _ _ h1 hn HY.out _ HA2.out HB2.out).mono ?_
    rintro e yo ⟨vq, vm, rfl, hq, hm, hbo⟩
    have QF := Lib.hid hq
    have RF := Lib.hid hm
    have LO := Lib.hid (HLO.out.trans (hbo.mono HLO.out.size))
    have ZO := Lib.hid (HZ2.out.below hbo)
    clear hq hm hbo
    go_wp2_with fail
    go_ret2
    exact ⟨_, _, rfl, by rw [HQ.out]; exact QF.out, by rw [HM.out]; exact RF.out, LO.out⟩
  · skip
    go_wp2_with fail
    refine (minusR _ _ n 0 _ (by omega) _ HZ2.out HB2.out).mono ?_
    rintro e y1 ⟨m1, rfl, hm1, hb1⟩
    have M1 := Lib.hid hm1.rn
    have Z_1 := Lib.hid (HZ2.out.below hb1)
    have A_1 := Lib.hid (HA2.out.below hb1)
    have B_1 := Lib.hid (HB2.out.below hb1)
    have L1 := Lib.hid (HLO.out.trans (hb1.mono HLO.out.size))
    clear hm1 hb1
    go_wp2_with fail
    refine (overR _ _ n _ _ h1 hn HY.out _ A_1.out M1.out).mono ?_
    rintro e yo ⟨vq, vm, rfl, hq, hm, hbo⟩
    have QF := Lib.hid hq
    have RF := Lib.hid hm
    have LO := Lib.hid (L1.out.trans (hbo.mono L1.out.size))
    have ZO := Lib.hid (Z_1.out.below hbo)
    clear hq hm hbo
    go_wp2_with fail
    refine (minusR _ _ n 0 _ (by omega) _ ZO.out QF.out).mono ?_
    rintro e y2 ⟨m2, rfl, hm2, hb2⟩
    have M2 := Lib.hid hm2.rn
    have Z_2 := Lib.hid (ZO.out.below hb2)
    have Q_2 := Lib.hid (QF.out.below hb2)
    have R_2 := Lib.hid (RF.out.below hb2)
    have L2 := Lib.hid (LO.out.trans (hb2.mono LO.out.size))
    clear hm2 hb2
    go_wp2_with fail
    go_ret2
    exact ⟨_, _, rfl, by rw [HQ.out]; exact M2.out, by rw [HM.out]; exact R_2.out, L2.out⟩
  · skip
    go_wp2_with fail
    refine (minusR _ _ n 0 _ (by omega) _ HZ2.out HA2.out).mono ?_
    rintro e y1 ⟨m1, rfl, hm1, hb1⟩
    have M1 := Lib.hid hm1.rn
    have Z_1 := Lib.hid (HZ2.out.below hb1)
    have A_1 := Lib.hid (HA2.out.below hb1)
    have B_1 := Lib.hid (HB2.out.below hb1)
    have L1 := Lib.hid (HLO.out.trans (hb1.mono HLO.out.size))
    clear hm1 hb1
    go_wp2_with fail
    refine (overR _ _ n _ _ h1 hn HY.out _ M1.out B_1.out).mono ?_
    rintro e yo ⟨vq, vm, rfl, hq, hm, hbo⟩
    have QF := Lib.hid hq
    have RF := Lib.hid hm
    have LO := Lib.hid (L1.out.trans (hbo.mono L1.out.size))
    have ZO := Lib.hid (Z_1.out.below hbo)
    clear hq hm hbo
    go_wp2_with fail
    refine (minusR _ _ n 0 _ (by omega) _ ZO.out QF.out).mono ?_
    rintro e y2 ⟨m2, rfl, hm2, hb2⟩
    have M2 := Lib.hid hm2.rn
    have Z_2 := Lib.hid (ZO.out.below hb2)
    have Q_2 := Lib.hid (QF.out.below hb2)
    have R_2 := Lib.hid (RF.out.below hb2)
    have L2 := Lib.hid (LO.out.trans (hb2.mono LO.out.size))
    clear hm2 hb2
    go_wp2_with fail
    refine (minusR _ _ n 0 _ (by omega) _ Z_2.out R_2.out).mono ?_
    rintro e y3 ⟨m3, rfl, hm3, hb3⟩
    have M3 := Lib.hid hm3.rn
    have Z_3 := Lib.hid (Z_2.out.below hb3)
    have Q_3 := Lib.hid (M2.out.below hb3)
    have R_3 := Lib.hid (R_2.out.below hb3)
    have L3 := Lib.hid (L2.out.trans (hb3.mono L2.out.size))
    clear hm3 hb3
    go_wp2_with fail
    go_ret2
    exact ⟨_, _, rfl, by rw [HQ.out]; exact Q_3.out, by rw [HM.out]; exact M3.out, L3.out⟩
  · skip
    go_wp2_with fail
    refine (minusR _ _ n 0 _ (by omega) _ HZ2.out HA2.out).mono ?_
    rintro e y1 ⟨m1, rfl, hm1, hb1⟩
    have M1 := Lib.hid hm1.rn
    have Z_1 := Lib.hid (HZ2.out.below hb1)
    have A_1 := Lib.hid (HA2.out.below hb1)
    have B_1 := Lib.hid (HB2.out.below hb1)
    have L1 := Lib.hid (HLO.out.trans (hb1.mono HLO.out.size))
    clear hm1 hb1
    go_wp2_with fail
    refine (minusR _ _ n 0 _ (by omega) _ Z_1.out B_1.out).mono ?_
    rintro e y2 ⟨m2, rfl, hm2, hb2⟩
    have M2 := Lib.hid hm2.rn
    have Z_2 := Lib.hid (Z_1.out.below hb2)
    have A_2 := Lib.hid (M1.out.below hb2)
    have B_2 := Lib.hid (B_1.out.below hb2)
    have L2 := Lib.hid (L1.out.trans (hb2.mono L1.out.size))
    clear hm2 hb2
    go_wp2_with fail
    refine (overR _ _ n _ _ h1 hn HY.out _ A_2.out M2.out).mono ?_
    rintro e yo ⟨vq, vm, rfl, hq, hm, hbo⟩
    have QF := Lib.hid hq
    have RF := Lib.hid hm
    have LO := Lib.hid (L2.out.trans (hbo.mono L2.out.size))
    have ZO := Lib.hid (Z_2.out.below hbo)
    clear hq hm hbo
    go_wp2_with fail
    refine (minusR _ _ n 0 _ (by omega) _ ZO.out RF.out).mono ?_
    rintro e y3 ⟨m3, rfl, hm3, hb3⟩
    have M3 := Lib.hid hm3.rn
    have Z_3 := Lib.hid (ZO.out.below hb3)
    have Q_3 := Lib.hid (QF.out.below hb3)
    have R_3 := Lib.hid (RF.out.below hb3)
    have L3 := Lib.hid (LO.out.trans (hb3.mono LO.out.size))
    clear hm3 hb3
    go_wp2_with fail
    go_ret2
    exact ⟨_, _, rfl, by rw [HQ.out]; exact Q_3.out, by rw [HM.out]; exact M3.out, L3.out⟩
end Go.Proofs.YtodldcdfdjooaaaGreatDoor
namespace Go.Proofs.YtodldcdfdjooaaaGreatDoor
open Go Go.RowKit Go.Sort
set_option linter.unusedVariables false
set_option maxRecDepth 100000 in
set_option maxHeartbeats 2000000 in
theorem Number_Add_xa (ad : Option Addr) (n cap : Nat) (u : Value) (s : Bool) (w : World) (hn : n ≤ 1000) (kv : Calls Tryz.prog 90 #[.slice ad n cap] w fun e w' => e = .returned (.bool false) ∧ w = w') :
    Calls Tryz.prog 67 #[.int .i64 16, .slice ad n cap, u, .bool s] w fun e w' => ∃ r, e = .returned r ∧ Row8 w' r (List.replicate n 120) ∧ Below w.heap.size w w' := by
  have KV := Lib.hid kv
  have HF := Lib.hid fun w => refFill_any n 120 (by omega) w
  clear kv
  go_enter Tryz.func67, Tryz.ntmps67
  go_wp2_with fail
  refine (KV.out).mono ?_
  rintro e w1 ⟨rfl, rfl⟩
  go_wp2_with fail
  refine (HF.out _).mono ?_
  rintro e w2 ⟨r, rfl, hr, hb2⟩
  go_wp2_with fail
  go_ret
  exact ⟨r, rfl, hr, hb2⟩
set_option maxRecDepth 100000 in
set_option maxHeartbeats 2000000 in
theorem Number_Add_xb (ad : Option Addr) (n cap : Nat) (u : Value) (s : Bool) (w : World) (hn : n ≤ 1000) (kv : Calls Tryz.prog 90 #[.slice ad n cap] w fun e w' => e = .returned (.bool true) ∧ w = w') (ku : Calls Tryz.prog 90 #[u] w fun e w' => e = .returned (.bool false) ∧ w = w') :
    Calls Tryz.prog 67 #[.int .i64 16, .slice ad n cap, u, .bool s] w fun e w' => ∃ r, e = .returned r ∧ Row8 w' r (List.replicate n 120) ∧ Below w.heap.size w w' := by
  have KV := Lib.hid kv
  have KU := Lib.hid ku
  have HF := Lib.hid fun w => refFill_any n 120 (by omega) w
  clear kv ku
  go_enter Tryz.func67, Tryz.ntmps67
  go_wp2_with fail
  refine (KV.out).mono ?_
  rintro e w1 ⟨rfl, rfl⟩
  go_wp2_with fail
  refine (KU.out).mono ?_
  rintro e w1 ⟨rfl, rfl⟩
  go_wp2_with fail
  refine (HF.out _).mono ?_
  rintro e w2 ⟨r, rfl, hr, hb2⟩
  go_wp2_with fail
  go_ret
  exact ⟨r, rfl, hr, hb2⟩
set_option maxRecDepth 100000 in
set_option maxHeartbeats 2000000 in
theorem Number_Add_k (ad : Option Addr) (n cap : Nat) (u : Value) (s : Bool) (w : World) (hn : n ≤ 1000) (Q : Value → World → Prop) (kv : Calls Tryz.prog 90 #[.slice ad n cap] w fun e w' => e = .returned (.bool true) ∧ w = w') (ku : Calls Tryz.prog 90 #[u] w fun e w' => e = .returned (.bool true) ∧ w = w') (k : Calls Tryz.prog 107 #[.slice ad n cap, u, .int .u8 48] w fun e w' => ∃ r, e = .returned r ∧ Q r w' ∧ Below w.heap.size w w') :
    Calls Tryz.prog 67 #[.int .i64 16, .slice ad n cap, u, .bool s] w fun e w' => ∃ r, e = .returned r ∧ Q r w' ∧ Below w.heap.size w w' := by
  have KV := Lib.hid kv
  have KU := Lib.hid ku
  have K := Lib.hid k
  clear kv ku k
  go_enter Tryz.func67, Tryz.ntmps67
  go_wp2_with fail
  refine (KV.out).mono ?_
  rintro e w1 ⟨rfl, rfl⟩
  go_wp2_with fail
  refine (KU.out).mono ?_
  rintro e w1 ⟨rfl, rfl⟩
  go_wp2_with fail
  refine K.out.mono ?_
  rintro e w2 ⟨r, rfl, hr, hb2⟩
  go_wp2_with fail
  go_ret
  exact ⟨r, rfl, hr, hb2⟩
set_option maxRecDepth 100000 in
set_option maxHeartbeats 1000000 in
theorem Binary_Add (v u : Value) (s : Bool) (Q : Value → World → Prop) (w : World) (c : Calls Tryz.prog 67 #[.int .i64 16, v, u, .bool s] w fun e w' => ∃ r, e = .returned r ∧ Q r w' ∧ Below w.heap.size w w') :
    Calls Tryz.prog 41 #[.int .i64 16, v, u, .bool s] w fun e w' => ∃ r, e = .returned r ∧ Q r w' ∧ Below w.heap.size w w' := by
  have C := Lib.hid c
  clear c
  go_enter Tryz.func41, Tryz.ntmps41
  go_wp2_with fail
  refine C.out.mono ?_
  rintro e w1 ⟨r, rfl, hq, hb⟩
  go_wp2_with fail
  go_ret
  exact ⟨r, rfl, hq, hb⟩
set_option maxRecDepth 100000 in
set_option maxHeartbeats 2000000 in
theorem Number_Sub_xa (ad : Option Addr) (n cap : Nat) (u : Value) (s : Bool) (w : World) (hn : n ≤ 1000) (kv : Calls Tryz.prog 90 #[.slice ad n cap] w fun e w' => e = .returned (.bool false) ∧ w = w') :
    Calls Tryz.prog 67 #[.int .i64 17, .slice ad n cap, u, .bool s] w fun e w' => ∃ r, e = .returned r ∧ Row8 w' r (List.replicate n 120) ∧ Below w.heap.size w w' := by
  have KV := Lib.hid kv
  have HF := Lib.hid fun w => refFill_any n 120 (by omega) w
  clear kv
  go_enter Tryz.func67, Tryz.ntmps67
  go_wp2_with fail
  refine (KV.out).mono ?_
  rintro e w1 ⟨rfl, rfl⟩
  go_wp2_with fail
  refine (HF.out _).mono ?_
  rintro e w2 ⟨r, rfl, hr, hb2⟩
  go_wp2_with fail
  go_ret
  exact ⟨r, rfl, hr, hb2⟩
set_option maxRecDepth 100000 in
set_option maxHeartbeats 2000000 in
theorem Number_Sub_xb (ad : Option Addr) (n cap : Nat) (u : Value) (s : Bool) (w : World) (hn : n ≤ 1000) (kv : Calls Tryz.prog 90 #[.slice ad n cap] w fun e w' => e = .returned (.bool true) ∧ w = w') (ku : Calls Tryz.prog 90 #[u] w fun e w' => e = .returned (.bool false) ∧ w = w') :
    Calls Tryz.prog 67 #[.int .i64 17, .slice ad n cap, u, .bool s] w fun e w' => ∃ r, e = .returned r ∧ Row8 w' r (List.replicate n 120) ∧ Below w.heap.size w w' := by
  have KV := Lib.hid kv
  have KU := Lib.hid ku
  have HF := Lib.hid fun w => refFill_any n 120 (by omega) w
  clear kv ku
  go_enter Tryz.func67, Tryz.ntmps67
  go_wp2_with fail
  refine (KV.out).mono ?_
  rintro e w1 ⟨rfl, rfl⟩
  go_wp2_with fail
  refine (KU.out).mono ?_
  rintro e w1 ⟨rfl, rfl⟩
  go_wp2_with fail
  refine (HF.out _).mono ?_
  rintro e w2 ⟨r, rfl, hr, hb2⟩
  go_wp2_with fail
  go_ret
  exact ⟨r, rfl, hr, hb2⟩
set_option maxRecDepth 100000 in
set_option maxHeartbeats 2000000 in
theorem Number_Sub_k (ad : Option Addr) (n cap : Nat) (u : Value) (s : Bool) (w : World) (hn : n ≤ 1000) (Q : Value → World → Prop) (kv : Calls Tryz.prog 90 #[.slice ad n cap] w fun e w' => e = .returned (.bool true) ∧ w = w') (ku : Calls Tryz.prog 90 #[u] w fun e w' => e = .returned (.bool true) ∧ w = w') (k : Calls Tryz.prog 108 #[.slice ad n cap, u] w fun e w' => ∃ r, e = .returned r ∧ Q r w' ∧ Below w.heap.size w w') :
    Calls Tryz.prog 67 #[.int .i64 17, .slice ad n cap, u, .bool s] w fun e w' => ∃ r, e = .returned r ∧ Q r w' ∧ Below w.heap.size w w' := by
  have KV := Lib.hid kv
  have KU := Lib.hid ku
  have K := Lib.hid k
  clear kv ku k
  go_enter Tryz.func67, Tryz.ntmps67
  go_wp2_with fail
  refine (KV.out).mono ?_
  rintro e w1 ⟨rfl, rfl⟩
  go_wp2_with fail
  refine (KU.out).mono ?_
  rintro e w1 ⟨rfl, rfl⟩
  go_wp2_with fail
  refine K.out.mono ?_
  rintro e w2 ⟨r, rfl, hr, hb2⟩
  go_wp2_with fail
  go_ret
  exact ⟨r, rfl, hr, hb2⟩
set_option maxRecDepth 100000 in
set_option maxHeartbeats 1000000 in
theorem Binary_Sub (v u : Value) (s : Bool) (Q : Value → World → Prop) (w : World) (c : Calls Tryz.prog 67 #[.int .i64 17, v, u, .bool s] w fun e w' => ∃ r, e = .returned r ∧ Q r w' ∧ Below w.heap.size w w') :
    Calls Tryz.prog 41 #[.int .i64 17, v, u, .bool s] w fun e w' => ∃ r, e = .returned r ∧ Q r w' ∧ Below w.heap.size w w' := by
  have C := Lib.hid c
  clear c
  go_enter Tryz.func41, Tryz.ntmps41
  go_wp2_with fail
  refine C.out.mono ?_
  rintro e w1 ⟨r, rfl, hq, hb⟩
  go_wp2_with fail
  go_ret
  exact ⟨r, rfl, hq, hb⟩
set_option maxRecDepth 100000 in
set_option maxHeartbeats 2000000 in
theorem Number_Mul_xa (ad : Option Addr) (n cap : Nat) (u : Value) (s : Bool) (w : World) (hn : n ≤ 1000) (kv : Calls Tryz.prog 90 #[.slice ad n cap] w fun e w' => e = .returned (.bool false) ∧ w = w') :
    Calls Tryz.prog 67 #[.int .i64 18, .slice ad n cap, u, .bool s] w fun e w' => ∃ r, e = .returned r ∧ Row8 w' r (List.replicate n 120) ∧ Below w.heap.size w w' := by
  have KV := Lib.hid kv
  have HF := Lib.hid fun w => refFill_any n 120 (by omega) w
  clear kv
  go_enter Tryz.func67, Tryz.ntmps67
  go_wp2_with fail
  refine (KV.out).mono ?_
  rintro e w1 ⟨rfl, rfl⟩
  go_wp2_with fail
  refine (HF.out _).mono ?_
  rintro e w2 ⟨r, rfl, hr, hb2⟩
  go_wp2_with fail
  go_ret
  exact ⟨r, rfl, hr, hb2⟩
set_option maxRecDepth 100000 in
set_option maxHeartbeats 2000000 in
theorem Number_Mul_xb (ad : Option Addr) (n cap : Nat) (u : Value) (s : Bool) (w : World) (hn : n ≤ 1000) (kv : Calls Tryz.prog 90 #[.slice ad n cap] w fun e w' => e = .returned (.bool true) ∧ w = w') (ku : Calls Tryz.prog 90 #[u] w fun e w' => e = .returned (.bool false) ∧ w = w') :
    Calls Tryz.prog 67 #[.int .i64 18, .slice ad n cap, u, .bool s] w fun e w' => ∃ r, e = .returned r ∧ Row8 w' r (List.replicate n 120) ∧ Below w.heap.size w w' := by
  have KV := Lib.hid kv
  have KU := Lib.hid ku
  have HF := Lib.hid fun w => refFill_any n 120 (by omega) w
  clear kv ku
  go_enter Tryz.func67, Tryz.ntmps67
  go_wp2_with fail
  refine (KV.out).mono ?_
  rintro e w1 ⟨rfl, rfl⟩
  go_wp2_with fail
  refine (KU.out).mono ?_
  rintro e w1 ⟨rfl, rfl⟩
  go_wp2_with fail
  refine (HF.out _).mono ?_
  rintro e w2 ⟨r, rfl, hr, hb2⟩
  go_wp2_with fail
  go_ret
  exact ⟨r, rfl, hr, hb2⟩
set_option maxRecDepth 100000 in
set_option maxHeartbeats 2000000 in
theorem Number_Mul_k (ad : Option Addr) (n cap : Nat) (u : Value) (s : Bool) (w : World) (hn : n ≤ 1000) (Q : Value → World → Prop) (kv : Calls Tryz.prog 90 #[.slice ad n cap] w fun e w' => e = .returned (.bool true) ∧ w = w') (ku : Calls Tryz.prog 90 #[u] w fun e w' => e = .returned (.bool true) ∧ w = w') (k : Calls Tryz.prog 109 #[.slice ad n cap, u] w fun e w' => ∃ r, e = .returned r ∧ Q r w' ∧ Below w.heap.size w w') :
    Calls Tryz.prog 67 #[.int .i64 18, .slice ad n cap, u, .bool s] w fun e w' => ∃ r, e = .returned r ∧ Q r w' ∧ Below w.heap.size w w' := by
  have KV := Lib.hid kv
  have KU := Lib.hid ku
  have K := Lib.hid k
  clear kv ku k
  go_enter Tryz.func67, Tryz.ntmps67
  go_wp2_with fail
  refine (KV.out).mono ?_
  rintro e w1 ⟨rfl, rfl⟩
  go_wp2_with fail
  refine (KU.out).mono ?_
  rintro e w1 ⟨rfl, rfl⟩
  go_wp2_with fail
  refine K.out.mono ?_
  rintro e w2 ⟨r, rfl, hr, hb2⟩
  go_wp2_with fail
  go_ret
  exact ⟨r, rfl, hr, hb2⟩
set_option maxRecDepth 100000 in
set_option maxHeartbeats 1000000 in
theorem Binary_Mul (v u : Value) (s : Bool) (Q : Value → World → Prop) (w : World) (c : Calls Tryz.prog 67 #[.int .i64 18, v, u, .bool s] w fun e w' => ∃ r, e = .returned r ∧ Q r w' ∧ Below w.heap.size w w') :
    Calls Tryz.prog 41 #[.int .i64 18, v, u, .bool s] w fun e w' => ∃ r, e = .returned r ∧ Q r w' ∧ Below w.heap.size w w' := by
  have C := Lib.hid c
  clear c
  go_enter Tryz.func41, Tryz.ntmps41
  go_wp2_with fail
  refine C.out.mono ?_
  rintro e w1 ⟨r, rfl, hq, hb⟩
  go_wp2_with fail
  go_ret
  exact ⟨r, rfl, hq, hb⟩
set_option maxRecDepth 100000 in
set_option maxHeartbeats 2000000 in
theorem Number_Div_xa (ad : Option Addr) (n cap : Nat) (u : Value) (s : Bool) (w : World) (hn : n ≤ 1000) (kv : Calls Tryz.prog 90 #[.slice ad n cap] w fun e w' => e = .returned (.bool false) ∧ w = w') :
    Calls Tryz.prog 67 #[.int .i64 19, .slice ad n cap, u, .bool s] w fun e w' => ∃ r, e = .returned r ∧ Row8 w' r (List.replicate n 120) ∧ Below w.heap.size w w' := by
  have KV := Lib.hid kv
  have HF := Lib.hid fun w => refFill_any n 120 (by omega) w
  clear kv
  go_enter Tryz.func67, Tryz.ntmps67
  go_wp2_with fail
  refine (KV.out).mono ?_
  rintro e w1 ⟨rfl, rfl⟩
  go_wp2_with fail
  refine (HF.out _).mono ?_
  rintro e w2 ⟨r, rfl, hr, hb2⟩
  go_wp2_with fail
  go_ret
  exact ⟨r, rfl, hr, hb2⟩
set_option maxRecDepth 100000 in
set_option maxHeartbeats 2000000 in
theorem Number_Div_xb (ad : Option Addr) (n cap : Nat) (u : Value) (s : Bool) (w : World) (hn : n ≤ 1000) (kv : Calls Tryz.prog 90 #[.slice ad n cap] w fun e w' => e = .returned (.bool true) ∧ w = w') (ku : Calls Tryz.prog 90 #[u] w fun e w' => e = .returned (.bool false) ∧ w = w') :
    Calls Tryz.prog 67 #[.int .i64 19, .slice ad n cap, u, .bool s] w fun e w' => ∃ r, e = .returned r ∧ Row8 w' r (List.replicate n 120) ∧ Below w.heap.size w w' := by
  have KV := Lib.hid kv
  have KU := Lib.hid ku
  have HF := Lib.hid fun w => refFill_any n 120 (by omega) w
  clear kv ku
  go_enter Tryz.func67, Tryz.ntmps67
  go_wp2_with fail
  refine (KV.out).mono ?_
  rintro e w1 ⟨rfl, rfl⟩
  go_wp2_with fail
  refine (KU.out).mono ?_
  rintro e w1 ⟨rfl, rfl⟩
  go_wp2_with fail
  refine (HF.out _).mono ?_
  rintro e w2 ⟨r, rfl, hr, hb2⟩
  go_wp2_with fail
  go_ret
  exact ⟨r, rfl, hr, hb2⟩
set_option maxRecDepth 100000 in
set_option maxHeartbeats 2000000 in
theorem Number_Div_z (ad : Option Addr) (n cap : Nat) (u : Value) (s : Bool) (w : World) (hn : n ≤ 1000) (kv : Calls Tryz.prog 90 #[.slice ad n cap] w fun e w' => e = .returned (.bool true) ∧ w = w') (ku : Calls Tryz.prog 90 #[u] w fun e w' => e = .returned (.bool true) ∧ w = w') (kt : Calls Tryz.prog 75 #[u] w fun e w' => e = .returned (.int .u8 (102 : Nat)) ∧ w = w') :
    Calls Tryz.prog 67 #[.int .i64 19, .slice ad n cap, u, .bool s] w fun e w' => ∃ r, e = .returned r ∧ Row8 w' r (List.replicate n 120) ∧ Below w.heap.size w w' := by
  have KV := Lib.hid kv
  have KU := Lib.hid ku
  have KT := Lib.hid kt
  have HF := Lib.hid fun w => refFill_any n 120 (by omega) w
  clear kv ku kt
  go_enter Tryz.func67, Tryz.ntmps67
  go_wp2_with fail
  refine (KV.out).mono ?_
  rintro e w1 ⟨rfl, rfl⟩
  go_wp2_with fail
  refine (KU.out).mono ?_
  rintro e w1 ⟨rfl, rfl⟩
  go_wp2_with fail
  refine (KT.out).mono ?_
  rintro e w1 ⟨rfl, rfl⟩
  go_wp2_with fail
  refine (HF.out _).mono ?_
  rintro e w2 ⟨r, rfl, hr, hb2⟩
  go_wp2_with fail
  go_ret
  exact ⟨r, rfl, hr, hb2⟩
set_option maxRecDepth 100000 in
set_option maxHeartbeats 2000000 in
theorem Number_Div_k (ad : Option Addr) (n cap : Nat) (u : Value) (s : Bool) (w : World) (hn : n ≤ 1000) (Q R : Value → World → Prop) (c : Nat) (hc : ¬ c = 102) (kv : Calls Tryz.prog 90 #[.slice ad n cap] w fun e w' => e = .returned (.bool true) ∧ w = w') (ku : Calls Tryz.prog 90 #[u] w fun e w' => e = .returned (.bool true) ∧ w = w') (kt : Calls Tryz.prog 75 #[u] w fun e w' => e = .returned (.int .u8 (c : Nat)) ∧ w = w') (k : Calls Tryz.prog 110 #[.slice ad n cap, u, .bool s] w fun e w' => ∃ q r, e = .returned (.tuple #[q, r]) ∧ Q q w' ∧ R r w' ∧ Below w.heap.size w w') :
    Calls Tryz.prog 67 #[.int .i64 19, .slice ad n cap, u, .bool s] w fun e w' => ∃ r, e = .returned r ∧ Q r w' ∧ Below w.heap.size w w' := by
  have KV := Lib.hid kv
  have KU := Lib.hid ku
  have KT := Lib.hid kt
  have K := Lib.hid k
  have t1 : ((c : Int) == 102) = false := beq_eq_false_iff_ne.2 (fun e => hc (by omega))
  clear kv ku kt k hc
  go_enter Tryz.func67, Tryz.ntmps67
  go_wp2_with fail
  refine (KV.out).mono ?_
  rintro e w1 ⟨rfl, rfl⟩
  go_wp2_with fail
  refine (KU.out).mono ?_
  rintro e w1 ⟨rfl, rfl⟩
  go_wp2_with fail
  refine (KT.out).mono ?_
  rintro e w1 ⟨rfl, rfl⟩
  go_wp2_with fail
  refine K.out.mono ?_
  rintro e w2 ⟨q, r, rfl, hq, hr, hb2⟩
  go_wp2_with fail
  go_ret
  exact ⟨_, rfl, hq, hb2⟩
set_option maxRecDepth 100000 in
set_option maxHeartbeats 1000000 in
theorem Binary_Div (v u : Value) (s : Bool) (Q : Value → World → Prop) (w : World) (c : Calls Tryz.prog 67 #[.int .i64 19, v, u, .bool s] w fun e w' => ∃ r, e = .returned r ∧ Q r w' ∧ Below w.heap.size w w') :
    Calls Tryz.prog 41 #[.int .i64 19, v, u, .bool s] w fun e w' => ∃ r, e = .returned r ∧ Q r w' ∧ Below w.heap.size w w' := by
  have C := Lib.hid c
  clear c
  go_enter Tryz.func41, Tryz.ntmps41
  go_wp2_with fail
  refine C.out.mono ?_
  rintro e w1 ⟨r, rfl, hq, hb⟩
  go_wp2_with fail
  go_ret
  exact ⟨r, rfl, hq, hb⟩
set_option maxRecDepth 100000 in
set_option maxHeartbeats 2000000 in
theorem Number_Mod_xa (ad : Option Addr) (n cap : Nat) (u : Value) (s : Bool) (w : World) (hn : n ≤ 1000) (kv : Calls Tryz.prog 90 #[.slice ad n cap] w fun e w' => e = .returned (.bool false) ∧ w = w') :
    Calls Tryz.prog 67 #[.int .i64 20, .slice ad n cap, u, .bool s] w fun e w' => ∃ r, e = .returned r ∧ Row8 w' r (List.replicate n 120) ∧ Below w.heap.size w w' := by
  have KV := Lib.hid kv
  have HF := Lib.hid fun w => refFill_any n 120 (by omega) w
  clear kv
  go_enter Tryz.func67, Tryz.ntmps67
  go_wp2_with fail
  refine (KV.out).mono ?_
  rintro e w1 ⟨rfl, rfl⟩
  go_wp2_with fail
  refine (HF.out _).mono ?_
  rintro e w2 ⟨r, rfl, hr, hb2⟩
  go_wp2_with fail
  go_ret
  exact ⟨r, rfl, hr, hb2⟩
set_option maxRecDepth 100000 in
set_option maxHeartbeats 2000000 in
theorem Number_Mod_xb (ad : Option Addr) (n cap : Nat) (u : Value) (s : Bool) (w : World) (hn : n ≤ 1000) (kv : Calls Tryz.prog 90 #[.slice ad n cap] w fun e w' => e = .returned (.bool true) ∧ w = w') (ku : Calls Tryz.prog 90 #[u] w fun e w' => e = .returned (.bool false) ∧ w = w') :
    Calls Tryz.prog 67 #[.int .i64 20, .slice ad n cap, u, .bool s] w fun e w' => ∃ r, e = .returned r ∧ Row8 w' r (List.replicate n 120) ∧ Below w.heap.size w w' := by
  have KV := Lib.hid kv
  have KU := Lib.hid ku
  have HF := Lib.hid fun w => refFill_any n 120 (by omega) w
  clear kv ku
  go_enter Tryz.func67, Tryz.ntmps67
  go_wp2_with fail
  refine (KV.out).mono ?_
  rintro e w1 ⟨rfl, rfl⟩
  go_wp2_with fail
  refine (KU.out).mono ?_
  rintro e w1 ⟨rfl, rfl⟩
  go_wp2_with fail
  refine (HF.out _).mono ?_
  rintro e w2 ⟨r, rfl, hr, hb2⟩
  go_wp2_with fail
  go_ret
  exact ⟨r, rfl, hr, hb2⟩
set_option maxRecDepth 100000 in
set_option maxHeartbeats 2000000 in
theorem Number_Mod_z (ad : Option Addr) (n cap : Nat) (u : Value) (s : Bool) (w : World) (hn : n ≤ 1000) (kv : Calls Tryz.prog 90 #[.slice ad n cap] w fun e w' => e = .returned (.bool true) ∧ w = w') (ku : Calls Tryz.prog 90 #[u] w fun e w' => e = .returned (.bool true) ∧ w = w') (kt : Calls Tryz.prog 75 #[u] w fun e w' => e = .returned (.int .u8 (102 : Nat)) ∧ w = w') :
    Calls Tryz.prog 67 #[.int .i64 20, .slice ad n cap, u, .bool s] w fun e w' => ∃ r, e = .returned r ∧ Row8 w' r (List.replicate n 120) ∧ Below w.heap.size w w' := by
  have KV := Lib.hid kv
  have KU := Lib.hid ku
  have KT := Lib.hid kt
  have HF := Lib.hid fun w => refFill_any n 120 (by omega) w
  clear kv ku kt
  go_enter Tryz.func67, Tryz.ntmps67
  go_wp2_with fail
  refine (KV.out).mono ?_
  rintro e w1 ⟨rfl, rfl⟩
  go_wp2_with fail
  refine (KU.out).mono ?_
  rintro e w1 ⟨rfl, rfl⟩
  go_wp2_with fail
  refine (KT.out).mono ?_
  rintro e w1 ⟨rfl, rfl⟩
  go_wp2_with fail
  refine (HF.out _).mono ?_
  rintro e w2 ⟨r, rfl, hr, hb2⟩
  go_wp2_with fail
  go_ret
  exact ⟨r, rfl, hr, hb2⟩
set_option maxRecDepth 100000 in
set_option maxHeartbeats 2000000 in
theorem Number_Mod_k (ad : Option Addr) (n cap : Nat) (u : Value) (s : Bool) (w : World) (hn : n ≤ 1000) (Q R : Value → World → Prop) (c : Nat) (hc : ¬ c = 102) (kv : Calls Tryz.prog 90 #[.slice ad n cap] w fun e w' => e = .returned (.bool true) ∧ w = w') (ku : Calls Tryz.prog 90 #[u] w fun e w' => e = .returned (.bool true) ∧ w = w') (kt : Calls Tryz.prog 75 #[u] w fun e w' => e = .returned (.int .u8 (c : Nat)) ∧ w = w') (k : Calls Tryz.prog 110 #[.slice ad n cap, u, .bool s] w fun e w' => ∃ q r, e = .returned (.tuple #[q, r]) ∧ Q q w' ∧ R r w' ∧ Below w.heap.size w w') :
    Calls Tryz.prog 67 #[.int .i64 20, .slice ad n cap, u, .bool s] w fun e w' => ∃ r, e = .returned r ∧ R r w' ∧ Below w.heap.size w w' := by
  have KV := Lib.hid kv
  have KU := Lib.hid ku
  have KT := Lib.hid kt
  have K := Lib.hid k
  have t1 : ((c : Int) == 102) = false := beq_eq_false_iff_ne.2 (fun e => hc (by omega))
  clear kv ku kt k hc
  go_enter Tryz.func67, Tryz.ntmps67
  go_wp2_with fail
  refine (KV.out).mono ?_
  rintro e w1 ⟨rfl, rfl⟩
  go_wp2_with fail
  refine (KU.out).mono ?_
  rintro e w1 ⟨rfl, rfl⟩
  go_wp2_with fail
  refine (KT.out).mono ?_
  rintro e w1 ⟨rfl, rfl⟩
  go_wp2_with fail
  refine K.out.mono ?_
  rintro e w2 ⟨q, r, rfl, hq, hr, hb2⟩
  go_wp2_with fail
  go_ret
  exact ⟨_, rfl, hr, hb2⟩
set_option maxRecDepth 100000 in
set_option maxHeartbeats 1000000 in
theorem Binary_Mod (v u : Value) (s : Bool) (Q : Value → World → Prop) (w : World) (c : Calls Tryz.prog 67 #[.int .i64 20, v, u, .bool s] w fun e w' => ∃ r, e = .returned r ∧ Q r w' ∧ Below w.heap.size w w') :
    Calls Tryz.prog 41 #[.int .i64 20, v, u, .bool s] w fun e w' => ∃ r, e = .returned r ∧ Q r w' ∧ Below w.heap.size w w' := by
  have C := Lib.hid c
  clear c
  go_enter Tryz.func41, Tryz.ntmps41
  go_wp2_with fail
  refine C.out.mono ?_
  rintro e w1 ⟨r, rfl, hq, hb⟩
  go_wp2_with fail
  go_ret
  exact ⟨r, rfl, hq, hb⟩
set_option maxRecDepth 100000 in
set_option maxHeartbeats 1000000 in
theorem unary_Neg (ad : Option Addr) (n cap : Nat) (Q : Value → World → Prop) (w : World) (hn : n ≤ 1000)
    (c : ∀ w' z, Below w.heap.size w w' → RN n 0 z w' → Calls Tryz.prog 67 #[.int .i64 17, z, .slice ad n cap, .bool false] w' fun e w1 => ∃ r, e = .returned r ∧ Q r w1 ∧ Below w'.heap.size w' w1) :
    Calls Tryz.prog 36 #[.int .i64 6, .slice ad n cap] w fun e w' => ∃ r, e = .returned r ∧ Q r w' ∧ Below w.heap.size w w' := by
  have HF := Lib.hid fun w => fillR n hn w
  have C := Lib.hid c
  clear c
  go_enter Tryz.func36, Tryz.ntmps36
  go_wp2_with fail
  refine (HF.out _).mono ?_
  rintro e w1 ⟨z, rfl, hz, hb⟩
  have HZ := Lib.hid hz.rn
  clear hz
  go_wp2_with fail
  refine (C.out _ _ hb HZ.out).mono ?_
  rintro e w2 ⟨r, rfl, hr, hb2⟩
  go_wp2_with fail
  go_ret
  exact ⟨r, rfl, hr, hb.trans (hb2.mono hb.size)⟩
end Go.Proofs.YtodldcdfdjooaaaGreatDoor
namespace Go.Proofs.YtodldcdfdjooaaaGreatDoor
open Go Go.RowKit Go.Sort
set_option linter.unusedVariables false
theorem num_inj {L M : List UInt8} {n : Nat} (hl : L.length = n) (hm : M.length = n) (hk : Kn L) (hk' : Kn M) (h : num L n = num M n) : L = M := by
  apply List.ext_getElem (hl.trans hm.symm)
  intro i h1 h2
  have b1 := (bit_of (l := L) rfl (show i < n by omega)).1
  have b2 := (bit_of (l := M) rfl (show i < n by omega)).1
  rw [h] at b1
  have e : bit1 (L.getD i 0) = bit1 (M.getD i 0) := by omega
  have k1 := hk i h1
  have k2 := hk' i h2
  rw [getD_at h1] at e k1
  rw [getD_at h2] at e k2
  rcases k1 with k1 | k1 <;> rcases k2 with k2 | k2 <;> rw [k1, k2] at e <;> rw [k1, k2]
  · simp [bit1] at e
  · simp [bit1] at e
/-- a list of known states that makes a number gives the number's vector -/
theorem Bl_num {L : List UInt8} {n : Nat} {c : BitVec 64} (h1 : 1 ≤ n) (h2 : n ≤ 64) (hl : L.length = n) (hk : Kn L) (h : num L n = c.toNat % 2 ^ n) : Bl L = ⟨n, (kv n c).v, (kv n c).x⟩ := by
  have ok := kv_ok h1 h2 c
  have hx : (kv n c).x = 0#64 := rfl
  have e : num (vl (kv n c) n) n = c.toNat % 2 ^ n := by
    rw [num_vl ok hx]; exact and_msk_toNat h2 c
  have : L = vl (kv n c) n := num_inj hl (vl_len _ _) hk (kn_vl hx) (h.trans e.symm)
  rw [this]; exact Bl_vl ok
theorem lf_num {n z : Nat} {c : BitVec 64} {v : Value} {w : World} (h1 : 1 ≤ n) (h2 : n ≤ 64) (h : RN n z v w) (e : z = c.toNat % 2 ^ n) : LF ⟨n, (kv n c).v, (kv n c).x⟩ v w := by
  obtain ⟨L, hr, hl, hk, hn⟩ := h
  exact ⟨L, hr, Bl_num h1 h2 hl hk (hn.trans e), by omega⟩
theorem lf_x {n : Nat} {v : Value} {w : World} (h1 : 1 ≤ n) (h2 : n ≤ 64) (h : Row8 w v (List.replicate n 120)) : LF ⟨n, (fl n 3).v, (fl n 3).x⟩ v w := by
  have e : List.replicate n 120 = vl (fl n 3) n := by
    unfold vl
    apply List.ext_getElem (by simp)
    intro i h3 h4
    have hi : i < n := by simpa using h3
    rw [List.getElem_replicate, List.getElem_map, List.getElem_range]
    unfold st fl; simp [msk_bit h2, hi]
  rw [e] at h
  exact ⟨_, h, Bl_vl (fl_ok h1 h2 3), by rw [vl_len]; omega⟩
theorem rn_vl {n : Nat} {a : Vx} (ha : a.ok n) (hx : a.x = 0#64) {v : Value} {w : World} (h : Row8 w v (vl a n)) : RN n a.v.toNat v w := ⟨_, h, vl_len _ _, kn_vl hx, num_vl ha hx⟩
theorem mod64 {n : Nat} (h : n ≤ 64) (x : Nat) : x % 2 ^ 64 % 2 ^ n = x % 2 ^ n := Nat.mod_mod_of_dvd _ (pow_dvd64 h)
theorem add_is {n : Nat} (h : n ≤ 64) (u v : BitVec 64) : (u.toNat + v.toNat) % 2 ^ n = (u + v).toNat % 2 ^ n := by rw [BitVec.toNat_add, mod64 h]
theorem mul_is {n : Nat} (h : n ≤ 64) (u v : BitVec 64) : u.toNat * v.toNat % 2 ^ n = (u * v).toNat % 2 ^ n := by rw [BitVec.toNat_mul, mod64 h]
theorem p64 {n : Nat} (h : n ≤ 64) : 2 ^ 64 = 2 ^ n * 2 ^ (64 - n) := by rw [← Nat.pow_add]; congr 1; omega
theorem neg_mod {n y : Nat} (h : n ≤ 64) (hy : y ≤ 2 ^ n) (x : Nat) : (x + (2 ^ n - y)) % 2 ^ n = (2 ^ 64 - y + x) % 2 ^ n := by
  have hp := p64 h
  obtain ⟨k, hk⟩ : ∃ k, 2 ^ (64 - n) = k + 1 := ⟨2 ^ (64 - n) - 1, by have := Nat.two_pow_pos (64 - n); omega⟩
  rw [hk, Nat.mul_add, Nat.mul_one] at hp
  have : 2 ^ 64 - y + x = (x + (2 ^ n - y)) + 2 ^ n * k := by omega
  rw [this, Nat.add_mul_mod_self_left]
theorem sub_is {n : Nat} (h : n ≤ 64) (u v : BitVec 64) (hv : v.toNat ≤ 2 ^ n) : (u.toNat + (2 ^ n - v.toNat)) % 2 ^ n = (u - v).toNat % 2 ^ n := by
  rw [BitVec.toNat_sub, mod64 h, neg_mod h hv]
/-- a number with a sign, in 64 bits, and cut -/
theorem ofInt_pos {n q : Nat} (h : n ≤ 64) (hq : q < 2 ^ n) : q = (BitVec.ofInt 64 (q : Int)).toNat % 2 ^ n := by
  rw [BitVec.toNat_ofInt]
  have e : ((q : Int) % ((2 ^ 64 : Nat) : Int)).toNat = q % 2 ^ 64 := by omega
  rw [e, mod64 h, Nat.mod_eq_of_lt hq]
theorem ofInt_neg {n q : Nat} (h : n ≤ 64) (hq : q ≤ 2 ^ n) : (0 + (2 ^ n - q)) % 2 ^ n = (BitVec.ofInt 64 (-(q : Int))).toNat % 2 ^ n := by
  have hp := Nat.pow_le_pow_right (n := 2) (by decide) h
  rw [BitVec.toNat_ofInt, neg_mod h hq 0, Nat.add_zero]
  have e : ((-(q : Int)) % ((2 ^ 64 : Nat) : Int)).toNat = (2 ^ 64 - q) % 2 ^ 64 := by omega
  rw [e, mod64 h]
theorem ext_is {n : Nat} (h1 : 1 ≤ n) (h2 : n ≤ 64) {v : BitVec 64} (hv : v.toNat < 2 ^ n) (c : Bool) (hc : c = decide (2 ^ (n - 1) ≤ v.toNat)) : (ext n v).toInt = if c then -(mgN n c v.toNat : Int) else (mgN n c v.toNat : Int) := by
  have hp : (2 : Int) ^ n = ((2 ^ n : Nat) : Int) := by push_cast; rfl
  have hq : 2 ^ n = 2 ^ (n - 1) + 2 ^ (n - 1) := by
    obtain ⟨m, rfl⟩ : ∃ m, n = m + 1 := ⟨n - 1, by omega⟩
    rw [Nat.pow_succ, Nat.add_sub_cancel]; omega
  have h0 := Nat.two_pow_pos (n - 1)
  rw [ext_toInt h1 h2 hv, hp]
  unfold mgN ngN
  cases c
  · have : v.toNat < 2 ^ (n - 1) := by
      have := of_decide_eq_false hc.symm; omega
    rw [if_pos this]; rfl
  · have : ¬ v.toNat < 2 ^ (n - 1) := by
      have := of_decide_eq_true hc.symm; omega
    rw [if_neg this, if_pos rfl, if_pos rfl, Nat.zero_add, Nat.mod_eq_of_lt (by omega)]
    omega
theorem mg_le {n x : Nat} (c : Bool) (hx : x < 2 ^ n) (hc : c = true → 2 ^ (n - 1) ≤ x) (hc2 : c = false → x < 2 ^ (n - 1)) (h1 : 1 ≤ n) : mgN n c x ≤ 2 ^ (n - 1) := by
  have hq : 2 ^ n = 2 ^ (n - 1) + 2 ^ (n - 1) := by
    obtain ⟨m, rfl⟩ : ∃ m, n = m + 1 := ⟨n - 1, by omega⟩
    rw [Nat.pow_succ, Nat.add_sub_cancel]; omega
  unfold mgN ngN
  cases c
  · have := hc2 rfl; rw [if_neg (by decide)]; omega
  · have := hc rfl
    have h0 := Nat.two_pow_pos (n - 1)
    rw [if_pos rfl, Nat.zero_add, Nat.mod_eq_of_lt (by omega)]; omega
theorem quot_is {n : Nat} (h1 : 1 ≤ n) (h2 : n ≤ 64) (s : Bool) (u v : BitVec 64) (hu : u.toNat < 2 ^ n) (hv : v.toNat < 2 ^ n) : shQ n s u.toNat v.toNat = (qt n s u v).toNat % 2 ^ n := by
  have hq : 2 ^ n = 2 ^ (n - 1) + 2 ^ (n - 1) := by
    obtain ⟨m, rfl⟩ : ∃ m, n = m + 1 := ⟨n - 1, by omega⟩
    rw [Nat.pow_succ, Nat.add_sub_cancel]; omega
  have h0 := Nat.two_pow_pos (n - 1)
  cases s
  · show u.toNat / v.toNat = (u / v).toNat % 2 ^ n
    rw [BitVec.toNat_udiv, Nat.mod_eq_of_lt (Nat.lt_of_le_of_lt (Nat.div_le_self _ _) hu)]
  · unfold shQ qt
    rw [if_pos rfl]
    have ea : sgB n true u.toNat = decide (2 ^ (n - 1) ≤ u.toNat) := by unfold sgB; rfl
    have eb : sgB n true v.toNat = decide (2 ^ (n - 1) ≤ v.toNat) := by unfold sgB; rfl
    rw [ext_is h1 h2 hu _ ea, ext_is h1 h2 hv _ eb]
    have la := mg_le (sgB n true u.toNat) hu (fun e => by rw [ea] at e; exact of_decide_eq_true e) (fun e => by rw [ea] at e; have := of_decide_eq_false e; omega) h1
    generalize sgB n true u.toNat = na at la ⊢
    generalize sgB n true v.toNat = nb
    generalize mgN n na u.toNat = p at la ⊢
    generalize mgN n nb v.toNat = q
    have hd : p / q ≤ p := Nat.div_le_self _ _
    cases na <;> cases nb
    · show p / q = (BitVec.ofInt 64 ((p : Int).tdiv (q : Int))).toNat % 2 ^ n
      rw [← Int.ofNat_tdiv]; exact ofInt_pos h2 (by omega)
    · show (0 + (2 ^ n - p / q)) % 2 ^ n = (BitVec.ofInt 64 ((p : Int).tdiv (-(q : Int)))).toNat % 2 ^ n
      rw [Int.tdiv_neg, ← Int.ofNat_tdiv]; exact ofInt_neg h2 (by omega)
    · show (0 + (2 ^ n - p / q)) % 2 ^ n = (BitVec.ofInt 64 ((-(p : Int)).tdiv (q : Int))).toNat % 2 ^ n
      rw [Int.neg_tdiv, ← Int.ofNat_tdiv]; exact ofInt_neg h2 (by omega)
    · show p / q = (BitVec.ofInt 64 ((-(p : Int)).tdiv (-(q : Int)))).toNat % 2 ^ n
      rw [Int.neg_tdiv, Int.tdiv_neg, Int.neg_neg, ← Int.ofNat_tdiv]; exact ofInt_pos h2 (by omega)
theorem rem_is {n : Nat} (h1 : 1 ≤ n) (h2 : n ≤ 64) (s : Bool) (u v : BitVec 64) (hu : u.toNat < 2 ^ n) (hv : v.toNat < 2 ^ n) : shM n s u.toNat v.toNat = (rm n s u v).toNat % 2 ^ n := by
  have hq : 2 ^ n = 2 ^ (n - 1) + 2 ^ (n - 1) := by
    obtain ⟨m, rfl⟩ : ∃ m, n = m + 1 := ⟨n - 1, by omega⟩
    rw [Nat.pow_succ, Nat.add_sub_cancel]; omega
  have h0 := Nat.two_pow_pos (n - 1)
  cases s
  · show u.toNat % v.toNat = (u % v).toNat % 2 ^ n
    rw [BitVec.toNat_umod, Nat.mod_eq_of_lt (Nat.lt_of_le_of_lt (Nat.mod_le _ _) hu)]
  · unfold shM rm
    rw [if_pos rfl]
    have ea : sgB n true u.toNat = decide (2 ^ (n - 1) ≤ u.toNat) := by unfold sgB; rfl
    have eb : sgB n true v.toNat = decide (2 ^ (n - 1) ≤ v.toNat) := by unfold sgB; rfl
    rw [ext_is h1 h2 hu _ ea, ext_is h1 h2 hv _ eb]
    have la := mg_le (sgB n true u.toNat) hu (fun e => by rw [ea] at e; exact of_decide_eq_true e) (fun e => by rw [ea] at e; have := of_decide_eq_false e; omega) h1
    generalize sgB n true u.toNat = na at la ⊢
    generalize sgB n true v.toNat = nb
    generalize mgN n na u.toNat = p at la ⊢
    generalize mgN n nb v.toNat = q
    have hd : p % q ≤ p := Nat.mod_le _ _
    cases na <;> cases nb
    · show p % q = (BitVec.ofInt 64 ((p : Int).tmod (q : Int))).toNat % 2 ^ n
      rw [← Int.ofNat_tmod]; exact ofInt_pos h2 (by omega)
    · show p % q = (BitVec.ofInt 64 ((p : Int).tmod (-(q : Int)))).toNat % 2 ^ n
      rw [Int.tmod_neg, ← Int.ofNat_tmod]; exact ofInt_pos h2 (by omega)
    · show (0 + (2 ^ n - p % q)) % 2 ^ n = (BitVec.ofInt 64 ((-(p : Int)).tmod (q : Int))).toNat % 2 ^ n
      rw [Int.neg_tmod, ← Int.ofNat_tmod]; exact ofInt_neg h2 (by omega)
    · show (0 + (2 ^ n - p % q)) % 2 ^ n = (BitVec.ofInt 64 ((-(p : Int)).tmod (-(q : Int)))).toNat % 2 ^ n
      rw [Int.neg_tmod, Int.tmod_neg, ← Int.ofNat_tmod]; exact ofInt_neg h2 (by omega)
theorem ok_lt {n : Nat} {a : Vx} (ha : a.ok n) (hx : a.x = 0#64) : a.v.toNat < 2 ^ n := by rw [← num_vl ha hx]; exact num_lt _ _
end Go.Proofs.YtodldcdfdjooaaaGreatDoor
