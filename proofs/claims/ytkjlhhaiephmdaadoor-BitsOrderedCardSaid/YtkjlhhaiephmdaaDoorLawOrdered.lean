/- The law BitsOrdered: its walk. -/
import Derived.Test.YtkjlhhaiephmdaaDoorJoined
import Derived.Test.YtkjlhhaiephmdaaDoorSl
import Derived.Test.YtkjlhhaiephmdaaDoorOrder
import Derived.Deep.RegionHeld3
namespace Go.Proofs.YtkjlhhaiephmdaaDoor
open Go Go.RowKit
set_option linter.unusedVariables false
theorem keep_cell {W w' : World} {p o : Nat} {v : Value} (hb : Below W.heap.size W w') (h : W.cell? ⟨p, o, none⟩ = some v) : w'.cell? ⟨p, o, none⟩ = some v :=
  (hb.cell (p := ⟨p, o, none⟩) (World.block_lt_of_cell? W _ h)).trans h
theorem hl_step {w0 W w' : World} (hb : Below W.heap.size W w') (hl : Below w0.heap.size w0 W) : Below w0.heap.size w0 w' := hl.trans (hb.mono hl.size)
theorem keep2 {w0 W w' : World} {p0 : Nat} {p1 : Nat} {n0 : Int} {n1 : Int} {v0 : Vx} {v1 : Vx} (hb : Below W.heap.size W w') (h0 : W.cell? ⟨p0, 0, none⟩ = some (.int .i64 n0)) (h1 : W.cell? ⟨p0, 1, none⟩ = some (.int .u64 (U v0.v))) (h2 : W.cell? ⟨p0, 2, none⟩ = some (.int .u64 (U v0.x))) (h3 : W.cell? ⟨p1, 0, none⟩ = some (.int .i64 n1)) (h4 : W.cell? ⟨p1, 1, none⟩ = some (.int .u64 (U v1.v))) (h5 : W.cell? ⟨p1, 2, none⟩ = some (.int .u64 (U v1.x))) (hl : Below w0.heap.size w0 W) :
    w'.cell? ⟨p0, 0, none⟩ = some (.int .i64 n0) ∧ w'.cell? ⟨p0, 1, none⟩ = some (.int .u64 (U v0.v)) ∧ w'.cell? ⟨p0, 2, none⟩ = some (.int .u64 (U v0.x)) ∧ w'.cell? ⟨p1, 0, none⟩ = some (.int .i64 n1) ∧ w'.cell? ⟨p1, 1, none⟩ = some (.int .u64 (U v1.v)) ∧ w'.cell? ⟨p1, 2, none⟩ = some (.int .u64 (U v1.x)) ∧ Below w0.heap.size w0 w' :=
  ⟨keep_cell hb h0, keep_cell hb h1, keep_cell hb h2, keep_cell hb h3, keep_cell hb h4, keep_cell hb h5, hl.trans (hb.mono hl.size)⟩
theorem keep2c {w0 W w' : World} {p0 : Nat} {p1 : Nat} {n0 : Int} {n1 : Int} {v0 : Vx} {v1 : Vx} (hb : Below W.heap.size W w') (h : W.cell? ⟨p0, 0, none⟩ = some (.int .i64 n0) ∧ W.cell? ⟨p0, 1, none⟩ = some (.int .u64 (U v0.v)) ∧ W.cell? ⟨p0, 2, none⟩ = some (.int .u64 (U v0.x)) ∧ W.cell? ⟨p1, 0, none⟩ = some (.int .i64 n1) ∧ W.cell? ⟨p1, 1, none⟩ = some (.int .u64 (U v1.v)) ∧ W.cell? ⟨p1, 2, none⟩ = some (.int .u64 (U v1.x)) ∧ Below w0.heap.size w0 W) :
    w'.cell? ⟨p0, 0, none⟩ = some (.int .i64 n0) ∧ w'.cell? ⟨p0, 1, none⟩ = some (.int .u64 (U v0.v)) ∧ w'.cell? ⟨p0, 2, none⟩ = some (.int .u64 (U v0.x)) ∧ w'.cell? ⟨p1, 0, none⟩ = some (.int .i64 n1) ∧ w'.cell? ⟨p1, 1, none⟩ = some (.int .u64 (U v1.v)) ∧ w'.cell? ⟨p1, 2, none⟩ = some (.int .u64 (U v1.x)) ∧ Below w0.heap.size w0 w' :=
  keep2 hb h.1 h.2.1 h.2.2.1 h.2.2.2.1 h.2.2.2.2.1 h.2.2.2.2.2.1 h.2.2.2.2.2.2
theorem keep2d {w0 W w' : World} {p0 : Nat} {p1 : Nat} {n0 : Int} {n1 : Int} {v0 : Vx} {v1 : Vx} (hb : Below W.drew.heap.size W.drew w') (h0 : W.cell? ⟨p0, 0, none⟩ = some (.int .i64 n0)) (h1 : W.cell? ⟨p0, 1, none⟩ = some (.int .u64 (U v0.v))) (h2 : W.cell? ⟨p0, 2, none⟩ = some (.int .u64 (U v0.x))) (h3 : W.cell? ⟨p1, 0, none⟩ = some (.int .i64 n1)) (h4 : W.cell? ⟨p1, 1, none⟩ = some (.int .u64 (U v1.v))) (h5 : W.cell? ⟨p1, 2, none⟩ = some (.int .u64 (U v1.x))) (hl : Below w0.heap.size w0 W) :
    w'.cell? ⟨p0, 0, none⟩ = some (.int .i64 n0) ∧ w'.cell? ⟨p0, 1, none⟩ = some (.int .u64 (U v0.v)) ∧ w'.cell? ⟨p0, 2, none⟩ = some (.int .u64 (U v0.x)) ∧ w'.cell? ⟨p1, 0, none⟩ = some (.int .i64 n1) ∧ w'.cell? ⟨p1, 1, none⟩ = some (.int .u64 (U v1.v)) ∧ w'.cell? ⟨p1, 2, none⟩ = some (.int .u64 (U v1.x)) ∧ Below w0.heap.size w0 w' :=
  keep2 (W := W) ⟨hb.os, hb.tape, hb.output, hb.size, hb.block⟩ h0 h1 h2 h3 h4 h5 hl
theorem keep3 {w0 W w' : World} {p0 : Nat} {p1 : Nat} {p2 : Nat} {n0 : Int} {n1 : Int} {n2 : Int} {v0 : Vx} {v1 : Vx} {v2 : Vx} (hb : Below W.heap.size W w') (h0 : W.cell? ⟨p0, 0, none⟩ = some (.int .i64 n0)) (h1 : W.cell? ⟨p0, 1, none⟩ = some (.int .u64 (U v0.v))) (h2 : W.cell? ⟨p0, 2, none⟩ = some (.int .u64 (U v0.x))) (h3 : W.cell? ⟨p1, 0, none⟩ = some (.int .i64 n1)) (h4 : W.cell? ⟨p1, 1, none⟩ = some (.int .u64 (U v1.v))) (h5 : W.cell? ⟨p1, 2, none⟩ = some (.int .u64 (U v1.x))) (h6 : W.cell? ⟨p2, 0, none⟩ = some (.int .i64 n2)) (h7 : W.cell? ⟨p2, 1, none⟩ = some (.int .u64 (U v2.v))) (h8 : W.cell? ⟨p2, 2, none⟩ = some (.int .u64 (U v2.x))) (hl : Below w0.heap.size w0 W) :
    w'.cell? ⟨p0, 0, none⟩ = some (.int .i64 n0) ∧ w'.cell? ⟨p0, 1, none⟩ = some (.int .u64 (U v0.v)) ∧ w'.cell? ⟨p0, 2, none⟩ = some (.int .u64 (U v0.x)) ∧ w'.cell? ⟨p1, 0, none⟩ = some (.int .i64 n1) ∧ w'.cell? ⟨p1, 1, none⟩ = some (.int .u64 (U v1.v)) ∧ w'.cell? ⟨p1, 2, none⟩ = some (.int .u64 (U v1.x)) ∧ w'.cell? ⟨p2, 0, none⟩ = some (.int .i64 n2) ∧ w'.cell? ⟨p2, 1, none⟩ = some (.int .u64 (U v2.v)) ∧ w'.cell? ⟨p2, 2, none⟩ = some (.int .u64 (U v2.x)) ∧ Below w0.heap.size w0 w' :=
  ⟨keep_cell hb h0, keep_cell hb h1, keep_cell hb h2, keep_cell hb h3, keep_cell hb h4, keep_cell hb h5, keep_cell hb h6, keep_cell hb h7, keep_cell hb h8, hl.trans (hb.mono hl.size)⟩
theorem keep3c {w0 W w' : World} {p0 : Nat} {p1 : Nat} {p2 : Nat} {n0 : Int} {n1 : Int} {n2 : Int} {v0 : Vx} {v1 : Vx} {v2 : Vx} (hb : Below W.heap.size W w') (h : W.cell? ⟨p0, 0, none⟩ = some (.int .i64 n0) ∧ W.cell? ⟨p0, 1, none⟩ = some (.int .u64 (U v0.v)) ∧ W.cell? ⟨p0, 2, none⟩ = some (.int .u64 (U v0.x)) ∧ W.cell? ⟨p1, 0, none⟩ = some (.int .i64 n1) ∧ W.cell? ⟨p1, 1, none⟩ = some (.int .u64 (U v1.v)) ∧ W.cell? ⟨p1, 2, none⟩ = some (.int .u64 (U v1.x)) ∧ W.cell? ⟨p2, 0, none⟩ = some (.int .i64 n2) ∧ W.cell? ⟨p2, 1, none⟩ = some (.int .u64 (U v2.v)) ∧ W.cell? ⟨p2, 2, none⟩ = some (.int .u64 (U v2.x)) ∧ Below w0.heap.size w0 W) :
    w'.cell? ⟨p0, 0, none⟩ = some (.int .i64 n0) ∧ w'.cell? ⟨p0, 1, none⟩ = some (.int .u64 (U v0.v)) ∧ w'.cell? ⟨p0, 2, none⟩ = some (.int .u64 (U v0.x)) ∧ w'.cell? ⟨p1, 0, none⟩ = some (.int .i64 n1) ∧ w'.cell? ⟨p1, 1, none⟩ = some (.int .u64 (U v1.v)) ∧ w'.cell? ⟨p1, 2, none⟩ = some (.int .u64 (U v1.x)) ∧ w'.cell? ⟨p2, 0, none⟩ = some (.int .i64 n2) ∧ w'.cell? ⟨p2, 1, none⟩ = some (.int .u64 (U v2.v)) ∧ w'.cell? ⟨p2, 2, none⟩ = some (.int .u64 (U v2.x)) ∧ Below w0.heap.size w0 w' :=
  keep3 hb h.1 h.2.1 h.2.2.1 h.2.2.2.1 h.2.2.2.2.1 h.2.2.2.2.2.1 h.2.2.2.2.2.2.1 h.2.2.2.2.2.2.2.1 h.2.2.2.2.2.2.2.2.1 h.2.2.2.2.2.2.2.2.2
theorem keep3d {w0 W w' : World} {p0 : Nat} {p1 : Nat} {p2 : Nat} {n0 : Int} {n1 : Int} {n2 : Int} {v0 : Vx} {v1 : Vx} {v2 : Vx} (hb : Below W.drew.heap.size W.drew w') (h0 : W.cell? ⟨p0, 0, none⟩ = some (.int .i64 n0)) (h1 : W.cell? ⟨p0, 1, none⟩ = some (.int .u64 (U v0.v))) (h2 : W.cell? ⟨p0, 2, none⟩ = some (.int .u64 (U v0.x))) (h3 : W.cell? ⟨p1, 0, none⟩ = some (.int .i64 n1)) (h4 : W.cell? ⟨p1, 1, none⟩ = some (.int .u64 (U v1.v))) (h5 : W.cell? ⟨p1, 2, none⟩ = some (.int .u64 (U v1.x))) (h6 : W.cell? ⟨p2, 0, none⟩ = some (.int .i64 n2)) (h7 : W.cell? ⟨p2, 1, none⟩ = some (.int .u64 (U v2.v))) (h8 : W.cell? ⟨p2, 2, none⟩ = some (.int .u64 (U v2.x))) (hl : Below w0.heap.size w0 W) :
    w'.cell? ⟨p0, 0, none⟩ = some (.int .i64 n0) ∧ w'.cell? ⟨p0, 1, none⟩ = some (.int .u64 (U v0.v)) ∧ w'.cell? ⟨p0, 2, none⟩ = some (.int .u64 (U v0.x)) ∧ w'.cell? ⟨p1, 0, none⟩ = some (.int .i64 n1) ∧ w'.cell? ⟨p1, 1, none⟩ = some (.int .u64 (U v1.v)) ∧ w'.cell? ⟨p1, 2, none⟩ = some (.int .u64 (U v1.x)) ∧ w'.cell? ⟨p2, 0, none⟩ = some (.int .i64 n2) ∧ w'.cell? ⟨p2, 1, none⟩ = some (.int .u64 (U v2.v)) ∧ w'.cell? ⟨p2, 2, none⟩ = some (.int .u64 (U v2.x)) ∧ Below w0.heap.size w0 w' :=
  keep3 (W := W) ⟨hb.os, hb.tape, hb.output, hb.size, hb.block⟩ h0 h1 h2 h3 h4 h5 h6 h7 h8 hl
set_option maxRecDepth 100000 in
set_option maxHeartbeats 4000000 in
theorem bitsOrdered_any (ad : Option Addr) (len cap : Nat) (w : World) (hS : Sl ad len w) {B : Nat} (hG : Glob B w) :
    Calls Tryd.prog 10 #[.slice ad len cap] w fun e w' => e = .returned (.bool true) ∧ Below w.heap.size w w' := by
  have HG := Lib.hid hG
  clear hG
  go_enter Tryd.func10, Tryd.ntmps10
  go_wp2_with fail
  have S0 := hS.str cap _ rfl
  refine (width_any w.heap.size len cap ad 0 (by omega) _ S0).mono ?_
  rintro e w1 ⟨n, ⟨h1, h2⟩, rfl, A1⟩
  obtain ⟨k1, hk1, S1⟩ := A1.st
  have b1 := adv_low A1 ((Below.refl _ _).alloc (Nat.le_refl _) _)
  go_wp2_with fail
  refine (known_any w.heap.size len cap ad k1 (by omega) n h1 h2 _ S1).mono ?_
  rintro e w2 ⟨a, ha, hx, rfl, A2⟩
  obtain ⟨k2, hk2, S2⟩ := A2.st
  have b2 := adv_low A2 b1
  have HX := Lib.hid hx
  clear hx
  go_wp2_with fail
  refine (known_any w.heap.size len cap ad k2 (by omega) n h1 h2 _ S2).mono ?_
  rintro e w3 ⟨b, hb, hy, rfl, A3⟩
  have b3 := adv_low A3 b2
  have HY := Lib.hid hy
  have s3 := b3.size
  clear hy A1 A2 A3 S0 S1 S2
  go_wp2_with fail
  have t1 := tru_bd (vlt n false a b)
  have t2 := tru_bd (veq a b)
  have t3 := tru_bd (vlt n false b a)
  obtain ⟨t1a, t1b⟩ := t1
  obtain ⟨t2a, t2b⟩ := t2
  obtain ⟨t3a, t3b⟩ := t3
  have X : (((w3.alloc (Obj.cells #[Value.int IntKind.i64 n, Value.int IntKind.u64 (U a.v), Value.int IntKind.u64 (U a.x)] 24)).alloc (Obj.cells #[Value.int IntKind.i64 n, Value.int IntKind.u64 (U b.v), Value.int IntKind.u64 (U b.x)] 24)).cell? ⟨w3.heap.size, 0, none⟩ = some (.int .i64 n) ∧ ((w3.alloc (Obj.cells #[Value.int IntKind.i64 n, Value.int IntKind.u64 (U a.v), Value.int IntKind.u64 (U a.x)] 24)).alloc (Obj.cells #[Value.int IntKind.i64 n, Value.int IntKind.u64 (U b.v), Value.int IntKind.u64 (U b.x)] 24)).cell? ⟨w3.heap.size, 1, none⟩ = some (.int .u64 (U a.v)) ∧ ((w3.alloc (Obj.cells #[Value.int IntKind.i64 n, Value.int IntKind.u64 (U a.v), Value.int IntKind.u64 (U a.x)] 24)).alloc (Obj.cells #[Value.int IntKind.i64 n, Value.int IntKind.u64 (U b.v), Value.int IntKind.u64 (U b.x)] 24)).cell? ⟨w3.heap.size, 2, none⟩ = some (.int .u64 (U a.x)) ∧ ((w3.alloc (Obj.cells #[Value.int IntKind.i64 n, Value.int IntKind.u64 (U a.v), Value.int IntKind.u64 (U a.x)] 24)).alloc (Obj.cells #[Value.int IntKind.i64 n, Value.int IntKind.u64 (U b.v), Value.int IntKind.u64 (U b.x)] 24)).cell? ⟨(w3.heap.size + 1), 0, none⟩ = some (.int .i64 n) ∧ ((w3.alloc (Obj.cells #[Value.int IntKind.i64 n, Value.int IntKind.u64 (U a.v), Value.int IntKind.u64 (U a.x)] 24)).alloc (Obj.cells #[Value.int IntKind.i64 n, Value.int IntKind.u64 (U b.v), Value.int IntKind.u64 (U b.x)] 24)).cell? ⟨(w3.heap.size + 1), 1, none⟩ = some (.int .u64 (U b.v)) ∧ ((w3.alloc (Obj.cells #[Value.int IntKind.i64 n, Value.int IntKind.u64 (U a.v), Value.int IntKind.u64 (U a.x)] 24)).alloc (Obj.cells #[Value.int IntKind.i64 n, Value.int IntKind.u64 (U b.v), Value.int IntKind.u64 (U b.x)] 24)).cell? ⟨(w3.heap.size + 1), 2, none⟩ = some (.int .u64 (U b.x)) ∧ Below w.heap.size w ((w3.alloc (Obj.cells #[Value.int IntKind.i64 n, Value.int IntKind.u64 (U a.v), Value.int IntKind.u64 (U a.x)] 24)).alloc (Obj.cells #[Value.int IntKind.i64 n, Value.int IntKind.u64 (U b.v), Value.int IntKind.u64 (U b.x)] 24))) := ⟨by go_simp, by go_simp, by go_simp, by go_simp, by go_simp, by go_simp, by (repeat (first | exact Below.refl _ _ | exact Nat.le_refl _ | refine below_drewN ?_ _ | refine Below.drew ?_ | refine Below.alloc ?_ ?_ _ | refine Below.setCell ?_ ?_ _ | refine below_step (by assumption) ?_ ?_)) <;> (first | omega | (simp <;> omega))⟩
  generalize hxx : ((w3.alloc (Obj.cells #[Value.int IntKind.i64 n, Value.int IntKind.u64 (U a.v), Value.int IntKind.u64 (U a.x)] 24)).alloc (Obj.cells #[Value.int IntKind.i64 n, Value.int IntKind.u64 (U b.v), Value.int IntKind.u64 (U b.x)] 24)) = wx at X ⊢
  clear hxx
  obtain ⟨x0, x1, x2, x3, x4, x5, xl⟩ := X

  go_region_held3 (fun w' => w'.cell? ⟨w3.heap.size, 0, none⟩ = some (.int .i64 n) ∧ w'.cell? ⟨w3.heap.size, 1, none⟩ = some (.int .u64 (U a.v)) ∧ w'.cell? ⟨w3.heap.size, 2, none⟩ = some (.int .u64 (U a.x)) ∧ w'.cell? ⟨(w3.heap.size + 1), 0, none⟩ = some (.int .i64 n) ∧ w'.cell? ⟨(w3.heap.size + 1), 1, none⟩ = some (.int .u64 (U b.v)) ∧ w'.cell? ⟨(w3.heap.size + 1), 2, none⟩ = some (.int .u64 (U b.x)) ∧ Below w.heap.size w w') (first | (exact keep2c (by assumption) (by assumption)) | (exact keep2d (by assumption) (by assumption) (by assumption) (by assumption) (by assumption) (by assumption) (by assumption) (by assumption)) | (refine ⟨?_, ?_, ?_, ?_, ?_, ?_, ?_⟩ <;> first | (go_keep; done) | ((repeat (first | exact Below.refl _ _ | exact Nat.le_refl _ | refine below_drewN ?_ _ | refine Below.drew ?_ | refine Below.alloc ?_ ?_ _ | refine Below.setCell ?_ ?_ _ | refine below_step (by assumption) ?_ ?_)) <;> (first | omega | (simp <;> omega)))))
    (first
      | (go_at_call 58; (with_reducible refine (lt_ok n a b false _ ha hb).mono ?_); rintro e wq ⟨rfl, hq⟩)
      | (go_at_call 58; (with_reducible refine (lt_ok n b a false _ hb ha).mono ?_); rintro e wq ⟨rfl, hq⟩)
      | (go_at_call 59; (with_reducible refine (eq_ok n a b _ ha hb).mono ?_); rintro e wq ⟨rfl, hq⟩)
      | (go_at_call 19; (with_reducible refine (true_one (vlt n false a b) _ (vlt_ok _ _ _ _)).mono ?_); rintro e wq ⟨rfl, hq⟩)
      | (go_at_call 19; (with_reducible refine (true_one (veq a b) _ (veq_ok _ _)).mono ?_); rintro e wq ⟨rfl, hq⟩)
      | (go_at_call 19; (with_reducible refine (true_one (vlt n false b a) _ (vlt_ok _ _ _ _)).mono ?_); rintro e wq ⟨rfl, hq⟩))
  have h3w := three_way (n := n) HX.out HY.out
  have hsum : IntKind.i64.wrap (IntKind.i64.wrap (tru (vlt n false a b) + tru (veq a b)) + tru (vlt n false b a)) = 1 := by
    rw [IntWalk.i64_in (tru (vlt n false a b) + tru (veq a b)) (by omega), IntWalk.i64_in (tru (vlt n false a b) + tru (veq a b) + tru (vlt n false b a)) (by omega)]; exact h3w
  rw [hsum]
  clear hsum h3w t1a t1b t2a t2b t3a t3b x0 x1 x2 x3 x4 x5 xl
  have X3 : (wq.cell? ⟨w3.heap.size, 0, none⟩ = some (.int .i64 n) ∧ wq.cell? ⟨w3.heap.size, 1, none⟩ = some (.int .u64 (U a.v)) ∧ wq.cell? ⟨w3.heap.size, 2, none⟩ = some (.int .u64 (U a.x)) ∧ wq.cell? ⟨(w3.heap.size + 1), 0, none⟩ = some (.int .i64 n) ∧ wq.cell? ⟨(w3.heap.size + 1), 1, none⟩ = some (.int .u64 (U b.v)) ∧ wq.cell? ⟨(w3.heap.size + 1), 2, none⟩ = some (.int .u64 (U b.x)) ∧ Below w.heap.size w wq) := by assumption
  have XX3 := Lib.hid X3
  clear X3
  go_wp2_with fail
  refine (of_ok n 1#64 _ h1 h2).mono ?_
  rintro e w4 ⟨rfl, hb4⟩
  have XX4 := Lib.hid (keep2c hb4 XX3.out)
  go_wp2_with fail
  rw [show (n : Int) - 1 = U (BitVec.ofNat 64 (n - 1)) from by unfold U; rw [BitVec.toNat_ofNat, Nat.mod_eq_of_lt (by omega)]; omega]
  refine (of_ok 7 (BitVec.ofNat 64 (n - 1)) _ (by decide) (by decide)).mono ?_
  rintro e w5 ⟨rfl, hb5⟩
  have XX5 := Lib.hid (keep2c hb5 XX4.out)
  go_wp2_with fail
  refine (shl_top n _ h1 h2).mono ?_
  rintro e w6 ⟨rfl, hb6⟩
  have XX6 := Lib.hid (keep2c hb6 XX5.out)
  go_wp2_with fail
  have ht : (topv n).ok n := vshl_ok h1 h2 _ _
  have hsg := signed_way ha hb HX.out HY.out
  have Y : ((w6.alloc (Obj.cells #[Value.int IntKind.i64 n, Value.int IntKind.u64 (U (topv n).v), Value.int IntKind.u64 (U (topv n).x)] 24)).cell? ⟨w3.heap.size, 0, none⟩ = some (.int .i64 n) ∧ (w6.alloc (Obj.cells #[Value.int IntKind.i64 n, Value.int IntKind.u64 (U (topv n).v), Value.int IntKind.u64 (U (topv n).x)] 24)).cell? ⟨w3.heap.size, 1, none⟩ = some (.int .u64 (U a.v)) ∧ (w6.alloc (Obj.cells #[Value.int IntKind.i64 n, Value.int IntKind.u64 (U (topv n).v), Value.int IntKind.u64 (U (topv n).x)] 24)).cell? ⟨w3.heap.size, 2, none⟩ = some (.int .u64 (U a.x)) ∧ (w6.alloc (Obj.cells #[Value.int IntKind.i64 n, Value.int IntKind.u64 (U (topv n).v), Value.int IntKind.u64 (U (topv n).x)] 24)).cell? ⟨(w3.heap.size + 1), 0, none⟩ = some (.int .i64 n) ∧ (w6.alloc (Obj.cells #[Value.int IntKind.i64 n, Value.int IntKind.u64 (U (topv n).v), Value.int IntKind.u64 (U (topv n).x)] 24)).cell? ⟨(w3.heap.size + 1), 1, none⟩ = some (.int .u64 (U b.v)) ∧ (w6.alloc (Obj.cells #[Value.int IntKind.i64 n, Value.int IntKind.u64 (U (topv n).v), Value.int IntKind.u64 (U (topv n).x)] 24)).cell? ⟨(w3.heap.size + 1), 2, none⟩ = some (.int .u64 (U b.x)) ∧ (w6.alloc (Obj.cells #[Value.int IntKind.i64 n, Value.int IntKind.u64 (U (topv n).v), Value.int IntKind.u64 (U (topv n).x)] 24)).cell? ⟨w6.heap.size, 0, none⟩ = some (.int .i64 n) ∧ (w6.alloc (Obj.cells #[Value.int IntKind.i64 n, Value.int IntKind.u64 (U (topv n).v), Value.int IntKind.u64 (U (topv n).x)] 24)).cell? ⟨w6.heap.size, 1, none⟩ = some (.int .u64 (U (topv n).v)) ∧ (w6.alloc (Obj.cells #[Value.int IntKind.i64 n, Value.int IntKind.u64 (U (topv n).v), Value.int IntKind.u64 (U (topv n).x)] 24)).cell? ⟨w6.heap.size, 2, none⟩ = some (.int .u64 (U (topv n).x)) ∧ Below w.heap.size w (w6.alloc (Obj.cells #[Value.int IntKind.i64 n, Value.int IntKind.u64 (U (topv n).v), Value.int IntKind.u64 (U (topv n).x)] 24))) := by
    have Z := keep2c (w' := (w6.alloc (Obj.cells #[Value.int IntKind.i64 n, Value.int IntKind.u64 (U (topv n).v), Value.int IntKind.u64 (U (topv n).x)] 24))) ((Below.refl _ _).alloc (Nat.le_refl _) _) XX6.out
    exact ⟨Z.1, Z.2.1, Z.2.2.1, Z.2.2.2.1, Z.2.2.2.2.1, Z.2.2.2.2.2.1, by go_simp, by go_simp, by go_simp, Z.2.2.2.2.2.2⟩
  generalize hyy : (w6.alloc (Obj.cells #[Value.int IntKind.i64 n, Value.int IntKind.u64 (U (topv n).v), Value.int IntKind.u64 (U (topv n).x)] 24)) = wy at Y ⊢
  clear hyy XX3 XX4 XX5 XX6
  obtain ⟨y0, y1, y2, y3, y4, y5, y6, y7, y8, yl⟩ := Y
  go_region_held3 (fun w' => w'.cell? ⟨w3.heap.size, 0, none⟩ = some (.int .i64 n) ∧ w'.cell? ⟨w3.heap.size, 1, none⟩ = some (.int .u64 (U a.v)) ∧ w'.cell? ⟨w3.heap.size, 2, none⟩ = some (.int .u64 (U a.x)) ∧ w'.cell? ⟨(w3.heap.size + 1), 0, none⟩ = some (.int .i64 n) ∧ w'.cell? ⟨(w3.heap.size + 1), 1, none⟩ = some (.int .u64 (U b.v)) ∧ w'.cell? ⟨(w3.heap.size + 1), 2, none⟩ = some (.int .u64 (U b.x)) ∧ w'.cell? ⟨w6.heap.size, 0, none⟩ = some (.int .i64 n) ∧ w'.cell? ⟨w6.heap.size, 1, none⟩ = some (.int .u64 (U (topv n).v)) ∧ w'.cell? ⟨w6.heap.size, 2, none⟩ = some (.int .u64 (U (topv n).x)) ∧ Below w.heap.size w w') (first | (exact keep3c (by assumption) (by assumption)) | (exact keep3d (by assumption) (by assumption) (by assumption) (by assumption) (by assumption) (by assumption) (by assumption) (by assumption) (by assumption) (by assumption) (by assumption)) | (refine ⟨?_, ?_, ?_, ?_, ?_, ?_, ?_, ?_, ?_, ?_⟩ <;> first | (go_keep; done) | ((repeat (first | exact Below.refl _ _ | exact Nat.le_refl _ | refine below_drewN ?_ _ | refine Below.drew ?_ | refine Below.alloc ?_ ?_ _ | refine Below.setCell ?_ ?_ _ | refine below_step (by assumption) ?_ ?_)) <;> (first | omega | (simp <;> omega)))))
    (first
      | (go_at_call 49; refine (joined_ok _ (by first | exact HG.out.here (by assumption) | exact (HG.out.here (by assumption)).here ((Below.refl _ _).drew))).mono ?_; rintro e wq ⟨rfl, hq⟩)
      | (go_at_call 61; (with_reducible refine (le_false n a b _ ha hb).mono ?_); rintro e wq ⟨rfl, hq⟩)
      | (go_at_call 58; (with_reducible refine (lt_ok n b a false _ hb ha).mono ?_); rintro e wq ⟨rfl, hq⟩)
      | (go_at_call 62; (with_reducible refine (lnot_one (vlt n false b a) _ (vlt_ok _ _ _ _)).mono ?_); rintro e wq ⟨rfl, hq⟩)
      | (go_at_call 58; (with_reducible refine (lt_ok n a b true _ ha hb).mono ?_); rintro e wq ⟨rfl, hq⟩)
      | (go_at_call 53; (with_reducible refine (xor_ok n a (topv n) _ ha ht).mono ?_); rintro e wq ⟨rfl, hq⟩)
      | (go_at_call 53; (with_reducible refine (xor_ok n b (topv n) _ hb ht).mono ?_); rintro e wq ⟨rfl, hq⟩)
      | (go_at_call 58; (with_reducible refine (lt_ok n (vxor n a (topv n)) (vxor n b (topv n)) false _ (vxor_ok ha ht) (vxor_ok hb ht)).mono ?_); rintro e wq ⟨rfl, hq⟩))
  all_goals
    have Hf : (wq.cell? ⟨w3.heap.size, 0, none⟩ = some (.int .i64 n) ∧ wq.cell? ⟨w3.heap.size, 1, none⟩ = some (.int .u64 (U a.v)) ∧ wq.cell? ⟨w3.heap.size, 2, none⟩ = some (.int .u64 (U a.x)) ∧ wq.cell? ⟨(w3.heap.size + 1), 0, none⟩ = some (.int .i64 n) ∧ wq.cell? ⟨(w3.heap.size + 1), 1, none⟩ = some (.int .u64 (U b.v)) ∧ wq.cell? ⟨(w3.heap.size + 1), 2, none⟩ = some (.int .u64 (U b.x)) ∧ wq.cell? ⟨w6.heap.size, 0, none⟩ = some (.int .i64 n) ∧ wq.cell? ⟨w6.heap.size, 1, none⟩ = some (.int .u64 (U (topv n).v)) ∧ wq.cell? ⟨w6.heap.size, 2, none⟩ = some (.int .u64 (U (topv n).x)) ∧ Below w.heap.size w wq) := by assumption
    go_wp2_with fail
    go_ret
    exact ⟨rfl, Hf.2.2.2.2.2.2.2.2.2⟩
end Go.Proofs.YtkjlhhaiephmdaaDoor
