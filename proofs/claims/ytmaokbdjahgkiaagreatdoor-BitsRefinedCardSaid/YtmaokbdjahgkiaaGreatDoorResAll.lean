/- maskkeep1.results, of the results of its 23 calls.
   maskkeep1.results, of well-formed vectors. -/
import Derived.Test.YtmaokbdjahgkiaaGreatDoorCmpProg
import Derived.Test.YtmaokbdjahgkiaaGreatDoorTwo
import Derived.Test.YtmaokbdjahgkiaaGreatDoorRelC
import Derived.Test.YtmaokbdjahgkiaaGreatDoorCats
import Derived.Lib.QuietBelow
import Derived.Deep.CutBlock
import Derived.Deep.DeepCutAuto
import Derived.Test.YtmaokbdjahgkiaaGreatDoorRefineA
import Derived.Test.YtmaokbdjahgkiaaGreatDoorNumProgC
import Derived.Test.YtmaokbdjahgkiaaGreatDoorShifts
import Derived.Test.YtmaokbdjahgkiaaGreatDoorCondP
import Derived.Test.YtmaokbdjahgkiaaGreatDoorOps5
namespace Go.Proofs.YtmaokbdjahgkiaaGreatDoor
open Go Go.RowKit Go.Sort
set_option linter.unusedVariables false
structure TC (w : World) (a b c : Rb) (W : World) : Prop where
  ba : Box W w.heap.size a.W (U a.v) (U a.x)
  bb : Box W (w.heap.size + 1) b.W (U b.v) (U b.x)
  bc : Box W (w.heap.size + 1 + 1) c.W (U c.v) (U c.x)
  lo : Below w.heap.size w W
theorem TC.below {w : World} {a b c : Rb} {W W' : World} (h : TC w a b c W) (hb : Below W.heap.size W W') : TC w a b c W' :=
  ⟨h.ba.below hb, h.bb.below hb, h.bc.below hb, h.lo.trans (hb.mono h.lo.size)⟩
theorem tc_new {w : World} (a b c : Rb) : TC w a b c (((w.alloc (bObj a)).alloc (bObj b)).alloc (bObj c)) :=
  ⟨⟨by go_simp, by go_simp, by go_simp, fun o => by go_simp⟩, ⟨by go_simp, by go_simp, by go_simp, fun o => by go_simp⟩, ⟨by go_simp, by go_simp, by go_simp, fun o => by go_simp⟩, (((Below.refl _ _).alloc (Nat.le_refl _) _).alloc (by simp) _).alloc (by simp; omega) _⟩
def RowC (L : List Rb) : Fa := fun v w => ∃ bl off, v = .slice (some ⟨bl, off, none⟩) 23 23 ∧ ∀ j, j < 23 → w.cell? ⟨bl, off + j * 3, none⟩ = some (.int .i64 (L.getD j ZR).W) ∧ w.cell? ⟨bl, off + j * 3 + 1, none⟩ = some (.int .u64 (U (L.getD j ZR).v)) ∧ w.cell? ⟨bl, off + j * 3 + 2, none⟩ = some (.int .u64 (U (L.getD j ZR).x))
theorem rowC_sta (L : List Rb) : Sta (RowC L) := fun v w w' ⟨bl, off, hv, hc⟩ hb => ⟨bl, off, hv, fun j hj => by
  obtain ⟨c0, c1, c2⟩ := hc j hj
  have hlt : bl < w.heap.size := World.block_lt_of_cell? w _ c0
  exact ⟨(hb.cell (p := ⟨bl, _, none⟩) hlt).trans c0, (hb.cell (p := ⟨bl, _, none⟩) hlt).trans c1, (hb.cell (p := ⟨bl, _, none⟩) hlt).trans c2⟩⟩
set_option maxRecDepth 100000 in
set_option maxHeartbeats 4000000 in
theorem results_abs (a b c : Rb) (s : Bool) (R0 R1 R2 R3 R4 R5 R6 R7 R8 R9 R10 R11 R12 R13 R14 R15 R16 R17 R18 R19 R20 R21 R22 : Rb) (c0 : ∀ w, Calls Tryz.prog 15 #[.agg #[.int .i64 a.W, .int .u64 (U a.v), .int .u64 (U a.x)]] w fun e w' => e = .returned (.agg #[.int .i64 R0.W, .int .u64 (U R0.v), .int .u64 (U R0.x)]) ∧ Below w.heap.size w w') (c1 : ∀ w, Calls Tryz.prog 16 #[.agg #[.int .i64 a.W, .int .u64 (U a.v), .int .u64 (U a.x)], .agg #[.int .i64 b.W, .int .u64 (U b.v), .int .u64 (U b.x)]] w fun e w' => e = .returned (.agg #[.int .i64 R1.W, .int .u64 (U R1.v), .int .u64 (U R1.x)]) ∧ Below w.heap.size w w') (c2 : ∀ w, Calls Tryz.prog 17 #[.agg #[.int .i64 a.W, .int .u64 (U a.v), .int .u64 (U a.x)], .agg #[.int .i64 b.W, .int .u64 (U b.v), .int .u64 (U b.x)]] w fun e w' => e = .returned (.agg #[.int .i64 R2.W, .int .u64 (U R2.v), .int .u64 (U R2.x)]) ∧ Below w.heap.size w w') (c3 : ∀ w, Calls Tryz.prog 18 #[.agg #[.int .i64 a.W, .int .u64 (U a.v), .int .u64 (U a.x)], .agg #[.int .i64 b.W, .int .u64 (U b.v), .int .u64 (U b.x)]] w fun e w' => e = .returned (.agg #[.int .i64 R3.W, .int .u64 (U R3.v), .int .u64 (U R3.x)]) ∧ Below w.heap.size w w') (c4 : ∀ w, Calls Tryz.prog 19 #[.agg #[.int .i64 a.W, .int .u64 (U a.v), .int .u64 (U a.x)]] w fun e w' => e = .returned (.agg #[.int .i64 R4.W, .int .u64 (U R4.v), .int .u64 (U R4.x)]) ∧ Below w.heap.size w w') (c5 : ∀ w, Calls Tryz.prog 20 #[.agg #[.int .i64 a.W, .int .u64 (U a.v), .int .u64 (U a.x)]] w fun e w' => e = .returned (.agg #[.int .i64 R5.W, .int .u64 (U R5.v), .int .u64 (U R5.x)]) ∧ Below w.heap.size w w') (c6 : ∀ w, Calls Tryz.prog 21 #[.agg #[.int .i64 a.W, .int .u64 (U a.v), .int .u64 (U a.x)]] w fun e w' => e = .returned (.agg #[.int .i64 R6.W, .int .u64 (U R6.v), .int .u64 (U R6.x)]) ∧ Below w.heap.size w w') (c7 : ∀ w, Calls Tryz.prog 22 #[.agg #[.int .i64 a.W, .int .u64 (U a.v), .int .u64 (U a.x)]] w fun e w' => e = .returned (.agg #[.int .i64 R7.W, .int .u64 (U R7.v), .int .u64 (U R7.x)]) ∧ Below w.heap.size w w') (c8 : ∀ w, Calls Tryz.prog 23 #[.agg #[.int .i64 a.W, .int .u64 (U a.v), .int .u64 (U a.x)], .agg #[.int .i64 c.W, .int .u64 (U c.v), .int .u64 (U c.x)]] w fun e w' => e = .returned (.agg #[.int .i64 R8.W, .int .u64 (U R8.v), .int .u64 (U R8.x)]) ∧ Below w.heap.size w w') (c9 : ∀ w, Calls Tryz.prog 24 #[.agg #[.int .i64 a.W, .int .u64 (U a.v), .int .u64 (U a.x)], .agg #[.int .i64 c.W, .int .u64 (U c.v), .int .u64 (U c.x)]] w fun e w' => e = .returned (.agg #[.int .i64 R9.W, .int .u64 (U R9.v), .int .u64 (U R9.x)]) ∧ Below w.heap.size w w') (c10 : ∀ w, Calls Tryz.prog 25 #[.agg #[.int .i64 a.W, .int .u64 (U a.v), .int .u64 (U a.x)]] w fun e w' => e = .returned (.agg #[.int .i64 R10.W, .int .u64 (U R10.v), .int .u64 (U R10.x)]) ∧ Below w.heap.size w w') (c11 : ∀ w, Calls Tryz.prog 26 #[.agg #[.int .i64 a.W, .int .u64 (U a.v), .int .u64 (U a.x)], .agg #[.int .i64 b.W, .int .u64 (U b.v), .int .u64 (U b.x)]] w fun e w' => e = .returned (.agg #[.int .i64 R11.W, .int .u64 (U R11.v), .int .u64 (U R11.x)]) ∧ Below w.heap.size w w') (c12 : ∀ w, Calls Tryz.prog 27 #[.agg #[.int .i64 a.W, .int .u64 (U a.v), .int .u64 (U a.x)], .agg #[.int .i64 b.W, .int .u64 (U b.v), .int .u64 (U b.x)]] w fun e w' => e = .returned (.agg #[.int .i64 R12.W, .int .u64 (U R12.v), .int .u64 (U R12.x)]) ∧ Below w.heap.size w w') (c13 : ∀ w, Calls Tryz.prog 28 #[.agg #[.int .i64 a.W, .int .u64 (U a.v), .int .u64 (U a.x)], .agg #[.int .i64 b.W, .int .u64 (U b.v), .int .u64 (U b.x)]] w fun e w' => e = .returned (.agg #[.int .i64 R13.W, .int .u64 (U R13.v), .int .u64 (U R13.x)]) ∧ Below w.heap.size w w') (c14 : ∀ w, Calls Tryz.prog 29 #[.agg #[.int .i64 a.W, .int .u64 (U a.v), .int .u64 (U a.x)], .agg #[.int .i64 c.W, .int .u64 (U c.v), .int .u64 (U c.x)]] w fun e w' => e = .returned (.agg #[.int .i64 R14.W, .int .u64 (U R14.v), .int .u64 (U R14.x)]) ∧ Below w.heap.size w w') (c15 : ∀ w, Calls Tryz.prog 30 #[.agg #[.int .i64 a.W, .int .u64 (U a.v), .int .u64 (U a.x)], .agg #[.int .i64 c.W, .int .u64 (U c.v), .int .u64 (U c.x)]] w fun e w' => e = .returned (.agg #[.int .i64 R15.W, .int .u64 (U R15.v), .int .u64 (U R15.x)]) ∧ Below w.heap.size w w') (c16 : ∀ w, Calls Tryz.prog 31 #[.agg #[.int .i64 a.W, .int .u64 (U a.v), .int .u64 (U a.x)], .agg #[.int .i64 c.W, .int .u64 (U c.v), .int .u64 (U c.x)]] w fun e w' => e = .returned (.agg #[.int .i64 R16.W, .int .u64 (U R16.v), .int .u64 (U R16.x)]) ∧ Below w.heap.size w w') (c17 : ∀ w, Calls Tryz.prog 32 #[.agg #[.int .i64 a.W, .int .u64 (U a.v), .int .u64 (U a.x)], .agg #[.int .i64 b.W, .int .u64 (U b.v), .int .u64 (U b.x)]] w fun e w' => e = .returned (.agg #[.int .i64 R17.W, .int .u64 (U R17.v), .int .u64 (U R17.x)]) ∧ Below w.heap.size w w') (c18 : ∀ w, Calls Tryz.prog 33 #[.agg #[.int .i64 a.W, .int .u64 (U a.v), .int .u64 (U a.x)], .agg #[.int .i64 b.W, .int .u64 (U b.v), .int .u64 (U b.x)]] w fun e w' => e = .returned (.agg #[.int .i64 R18.W, .int .u64 (U R18.v), .int .u64 (U R18.x)]) ∧ Below w.heap.size w w') (c19 : ∀ w, Calls Tryz.prog 34 #[.agg #[.int .i64 a.W, .int .u64 (U a.v), .int .u64 (U a.x)], .agg #[.int .i64 b.W, .int .u64 (U b.v), .int .u64 (U b.x)], .bool s] w fun e w' => e = .returned (.agg #[.int .i64 R19.W, .int .u64 (U R19.v), .int .u64 (U R19.x)]) ∧ Below w.heap.size w w') (c20 : ∀ w, Calls Tryz.prog 35 #[.agg #[.int .i64 a.W, .int .u64 (U a.v), .int .u64 (U a.x)], .agg #[.int .i64 b.W, .int .u64 (U b.v), .int .u64 (U b.x)], .bool s] w fun e w' => e = .returned (.agg #[.int .i64 R20.W, .int .u64 (U R20.v), .int .u64 (U R20.x)]) ∧ Below w.heap.size w w') (c21 : ∀ w, Calls Tryz.prog 36 #[.agg #[.int .i64 c.W, .int .u64 (U c.v), .int .u64 (U c.x)], .agg #[.int .i64 a.W, .int .u64 (U a.v), .int .u64 (U a.x)], .agg #[.int .i64 b.W, .int .u64 (U b.v), .int .u64 (U b.x)]] w fun e w' => e = .returned (.agg #[.int .i64 R21.W, .int .u64 (U R21.v), .int .u64 (U R21.x)]) ∧ Below w.heap.size w w') (c22 : ∀ w, Calls Tryz.prog 37 #[.agg #[.int .i64 a.W, .int .u64 (U a.v), .int .u64 (U a.x)], .int .i64 64, .bool s] w fun e w' => e = .returned (.agg #[.int .i64 R22.W, .int .u64 (U R22.v), .int .u64 (U R22.x)]) ∧ Below w.heap.size w w') (w : World) : Calls Tryz.prog 10 #[.agg #[.int .i64 a.W, .int .u64 (U a.v), .int .u64 (U a.x)], .agg #[.int .i64 b.W, .int .u64 (U b.v), .int .u64 (U b.x)], .agg #[.int .i64 c.W, .int .u64 (U c.v), .int .u64 (U c.x)], .bool s] w fun e w' => ∃ v, e = .returned v ∧ RowC [R0, R1, R2, R3, R4, R5, R6, R7, R8, R9, R10, R11, R12, R13, R14, R15, R16, R17, R18, R19, R20, R21, R22] v w' ∧ Below w.heap.size w w' := by
  have k0 := Lib.hid c0
  have k1 := Lib.hid c1
  have k2 := Lib.hid c2
  have k3 := Lib.hid c3
  have k4 := Lib.hid c4
  have k5 := Lib.hid c5
  have k6 := Lib.hid c6
  have k7 := Lib.hid c7
  have k8 := Lib.hid c8
  have k9 := Lib.hid c9
  have k10 := Lib.hid c10
  have k11 := Lib.hid c11
  have k12 := Lib.hid c12
  have k13 := Lib.hid c13
  have k14 := Lib.hid c14
  have k15 := Lib.hid c15
  have k16 := Lib.hid c16
  have k17 := Lib.hid c17
  have k18 := Lib.hid c18
  have k19 := Lib.hid c19
  have k20 := Lib.hid c20
  have k21 := Lib.hid c21
  have k22 := Lib.hid c22
  clear c0 c1 c2 c3 c4 c5 c6 c7 c8 c9 c10 c11 c12 c13 c14 c15 c16 c17 c18 c19 c20 c21 c22
  obtain ⟨L, HL⟩ : ∃ L, Hid (L = [R0, R1, R2, R3, R4, R5, R6, R7, R8, R9, R10, R11, R12, R13, R14, R15, R16, R17, R18, R19, R20, R21, R22]) := ⟨_, Lib.hid rfl⟩
  rw [← HL.out]
  obtain ⟨aW, av, ax⟩ := a
  obtain ⟨bW, bv, bx⟩ := b
  obtain ⟨cW, cv, cx⟩ := c
  show Calls Tryz.prog 10 #[.agg #[.int .i64 aW, .int .u64 (U av), .int .u64 (U ax)], .agg #[.int .i64 bW, .int .u64 (U bv), .int .u64 (U bx)], .agg #[.int .i64 cW, .int .u64 (U cv), .int .u64 (U cx)], .bool s] w _
  go_enter Tryz.func10, Tryz.ntmps10
  go_upto_region 1 with fail
  have C := tc_new (w := w) ⟨aW, av, ax⟩ ⟨bW, bv, bx⟩ ⟨cW, cv, cx⟩
  generalize (((w.alloc (Obj.cells #[Value.int IntKind.i64 aW, Value.int IntKind.u64 (U av), Value.int IntKind.u64 (U ax)] 29)).alloc (Obj.cells #[Value.int IntKind.i64 bW, Value.int IntKind.u64 (U bv), Value.int IntKind.u64 (U bx)] 29)).alloc (Obj.cells #[Value.int IntKind.i64 cW, Value.int IntKind.u64 (U cv), Value.int IntKind.u64 (U cx)] 29)) = W at C ⊢
  obtain ⟨⟨a0, a1, a2, af⟩, ⟨b0, b1, b2, bf⟩, ⟨p0, p1, p2, pf⟩, lo⟩ := id C
  have ga0 := cell_regrown a0
  have ga1 := cell_regrown a1
  have ga2 := cell_regrown a2
  have gb0 := cell_regrown b0
  have gb1 := cell_regrown b1
  have gb2 := cell_regrown b2
  have gp0 := cell_regrown p0
  have gp1 := cell_regrown p1
  have gp2 := cell_regrown p2
  refine wp_region_rel 67 (by kernel_rfl) (by kernel_rfl) ?_
  simp only [List.append_eq, List.cons_append, List.nil_append, List.take_succ_cons, List.take_zero, List.drop_succ_cons, List.drop_zero]
  (refine rel_fix0 (fun K hK => ?_); go_simp; refine hK _ ?_; clear hK K)
  (refine rel_fix0 (fun K hK => ?_); go_simp; apply Exists.intro; refine ⟨fun _ _ => ?_, hK _ ?_⟩; (with_reducible exact ret_fix (k0.out _)); clear hK K)
  (refine rel_fix0 (fun K hK => ?_); go_simp; refine hK _ ?_; clear hK K)
  (refine rel_fix0 (fun K hK => ?_); go_simp; refine hK _ ?_; clear hK K)
  (refine rel_fix0 (fun K hK => ?_); go_simp; apply Exists.intro; refine ⟨fun _ _ => ?_, hK _ ?_⟩; (with_reducible exact ret_fix (k1.out _)); clear hK K)
  (refine rel_fix0 (fun K hK => ?_); go_simp; refine hK _ ?_; clear hK K)
  (refine rel_fix0 (fun K hK => ?_); go_simp; refine hK _ ?_; clear hK K)
  (refine rel_fix0 (fun K hK => ?_); go_simp; apply Exists.intro; refine ⟨fun _ _ => ?_, hK _ ?_⟩; (with_reducible exact ret_fix (k2.out _)); clear hK K)
  (refine rel_fix0 (fun K hK => ?_); go_simp; refine hK _ ?_; clear hK K)
  (refine rel_fix0 (fun K hK => ?_); go_simp; refine hK _ ?_; clear hK K)
  (refine rel_fix0 (fun K hK => ?_); go_simp; apply Exists.intro; refine ⟨fun _ _ => ?_, hK _ ?_⟩; (with_reducible exact ret_fix (k3.out _)); clear hK K)
  (refine rel_fix0 (fun K hK => ?_); go_simp; refine hK _ ?_; clear hK K)
  (refine rel_fix0 (fun K hK => ?_); go_simp; apply Exists.intro; refine ⟨fun _ _ => ?_, hK _ ?_⟩; (with_reducible exact ret_fix (k4.out _)); clear hK K)
  (refine rel_fix0 (fun K hK => ?_); go_simp; refine hK _ ?_; clear hK K)
  (refine rel_fix0 (fun K hK => ?_); go_simp; apply Exists.intro; refine ⟨fun _ _ => ?_, hK _ ?_⟩; (with_reducible exact ret_fix (k5.out _)); clear hK K)
  (refine rel_fix0 (fun K hK => ?_); go_simp; refine hK _ ?_; clear hK K)
  (refine rel_fix0 (fun K hK => ?_); go_simp; apply Exists.intro; refine ⟨fun _ _ => ?_, hK _ ?_⟩; (with_reducible exact ret_fix (k6.out _)); clear hK K)
  (refine rel_fix0 (fun K hK => ?_); go_simp; refine hK _ ?_; clear hK K)
  (refine rel_fix0 (fun K hK => ?_); go_simp; apply Exists.intro; refine ⟨fun _ _ => ?_, hK _ ?_⟩; (with_reducible exact ret_fix (k7.out _)); clear hK K)
  (refine rel_fix0 (fun K hK => ?_); go_simp; refine hK _ ?_; clear hK K)
  (refine rel_fix0 (fun K hK => ?_); go_simp; refine hK _ ?_; clear hK K)
  (refine rel_fix0 (fun K hK => ?_); go_simp; apply Exists.intro; refine ⟨fun _ _ => ?_, hK _ ?_⟩; (with_reducible exact ret_fix (k8.out _)); clear hK K)
  (refine rel_fix0 (fun K hK => ?_); go_simp; refine hK _ ?_; clear hK K)
  (refine rel_fix0 (fun K hK => ?_); go_simp; refine hK _ ?_; clear hK K)
  (refine rel_fix0 (fun K hK => ?_); go_simp; apply Exists.intro; refine ⟨fun _ _ => ?_, hK _ ?_⟩; (with_reducible exact ret_fix (k9.out _)); clear hK K)
  (refine rel_fix0 (fun K hK => ?_); go_simp; refine hK _ ?_; clear hK K)
  (refine rel_fix0 (fun K hK => ?_); go_simp; apply Exists.intro; refine ⟨fun _ _ => ?_, hK _ ?_⟩; (with_reducible exact ret_fix (k10.out _)); clear hK K)
  (refine rel_fix0 (fun K hK => ?_); go_simp; refine hK _ ?_; clear hK K)
  (refine rel_fix0 (fun K hK => ?_); go_simp; refine hK _ ?_; clear hK K)
  (refine rel_fix0 (fun K hK => ?_); go_simp; apply Exists.intro; refine ⟨fun _ _ => ?_, hK _ ?_⟩; (with_reducible exact ret_fix (k11.out _)); clear hK K)
  (refine rel_fix0 (fun K hK => ?_); go_simp; refine hK _ ?_; clear hK K)
  (refine rel_fix0 (fun K hK => ?_); go_simp; refine hK _ ?_; clear hK K)
  (refine rel_fix0 (fun K hK => ?_); go_simp; apply Exists.intro; refine ⟨fun _ _ => ?_, hK _ ?_⟩; (with_reducible exact ret_fix (k12.out _)); clear hK K)
  (refine rel_fix0 (fun K hK => ?_); go_simp; refine hK _ ?_; clear hK K)
  (refine rel_fix0 (fun K hK => ?_); go_simp; refine hK _ ?_; clear hK K)
  (refine rel_fix0 (fun K hK => ?_); go_simp; apply Exists.intro; refine ⟨fun _ _ => ?_, hK _ ?_⟩; (with_reducible exact ret_fix (k13.out _)); clear hK K)
  (refine rel_fix0 (fun K hK => ?_); go_simp; refine hK _ ?_; clear hK K)
  (refine rel_fix0 (fun K hK => ?_); go_simp; refine hK _ ?_; clear hK K)
  (refine rel_fix0 (fun K hK => ?_); go_simp; apply Exists.intro; refine ⟨fun _ _ => ?_, hK _ ?_⟩; (with_reducible exact ret_fix (k14.out _)); clear hK K)
  (refine rel_fix0 (fun K hK => ?_); go_simp; refine hK _ ?_; clear hK K)
  (refine rel_fix0 (fun K hK => ?_); go_simp; refine hK _ ?_; clear hK K)
  (refine rel_fix0 (fun K hK => ?_); go_simp; apply Exists.intro; refine ⟨fun _ _ => ?_, hK _ ?_⟩; (with_reducible exact ret_fix (k15.out _)); clear hK K)
  (refine rel_fix0 (fun K hK => ?_); go_simp; refine hK _ ?_; clear hK K)
  (refine rel_fix0 (fun K hK => ?_); go_simp; refine hK _ ?_; clear hK K)
  (refine rel_fix0 (fun K hK => ?_); go_simp; apply Exists.intro; refine ⟨fun _ _ => ?_, hK _ ?_⟩; (with_reducible exact ret_fix (k16.out _)); clear hK K)
  (refine rel_fix0 (fun K hK => ?_); go_simp; refine hK _ ?_; clear hK K)
  (refine rel_fix0 (fun K hK => ?_); go_simp; refine hK _ ?_; clear hK K)
  (refine rel_fix0 (fun K hK => ?_); go_simp; apply Exists.intro; refine ⟨fun _ _ => ?_, hK _ ?_⟩; (with_reducible exact ret_fix (k17.out _)); clear hK K)
  (refine rel_fix0 (fun K hK => ?_); go_simp; refine hK _ ?_; clear hK K)
  (refine rel_fix0 (fun K hK => ?_); go_simp; refine hK _ ?_; clear hK K)
  (refine rel_fix0 (fun K hK => ?_); go_simp; apply Exists.intro; refine ⟨fun _ _ => ?_, hK _ ?_⟩; (with_reducible exact ret_fix (k18.out _)); clear hK K)
  (refine rel_fix0 (fun K hK => ?_); go_simp; refine hK _ ?_; clear hK K)
  (refine rel_fix0 (fun K hK => ?_); go_simp; refine hK _ ?_; clear hK K)
  (refine rel_fix0 (fun K hK => ?_); go_simp; refine hK _ ?_; clear hK K)
  (refine rel_fix0 (fun K hK => ?_); go_simp; apply Exists.intro; refine ⟨fun _ _ => ?_, hK _ ?_⟩; (with_reducible exact ret_fix (k19.out _)); clear hK K)
  (refine rel_fix0 (fun K hK => ?_); go_simp; refine hK _ ?_; clear hK K)
  (refine rel_fix0 (fun K hK => ?_); go_simp; refine hK _ ?_; clear hK K)
  (refine rel_fix0 (fun K hK => ?_); go_simp; refine hK _ ?_; clear hK K)
  (refine rel_fix0 (fun K hK => ?_); go_simp; apply Exists.intro; refine ⟨fun _ _ => ?_, hK _ ?_⟩; (with_reducible exact ret_fix (k20.out _)); clear hK K)
  (refine rel_fix0 (fun K hK => ?_); go_simp; refine hK _ ?_; clear hK K)
  (refine rel_fix0 (fun K hK => ?_); go_simp; refine hK _ ?_; clear hK K)
  (refine rel_fix0 (fun K hK => ?_); go_simp; refine hK _ ?_; clear hK K)
  (refine rel_fix0 (fun K hK => ?_); go_simp; apply Exists.intro; refine ⟨fun _ _ => ?_, hK _ ?_⟩; (with_reducible exact ret_fix (k21.out _)); clear hK K)
  (refine rel_fix0 (fun K hK => ?_); go_simp; refine hK _ ?_; clear hK K)
  (refine rel_fix0 (fun K hK => ?_); go_simp; refine hK _ ?_; clear hK K)
  (refine rel_fix0 (fun K hK => ?_); go_simp; apply Exists.intro; refine ⟨fun _ _ => ?_, hK _ ?_⟩; (with_reducible exact ret_fix (k22.out _)); clear hK K)
  refine rel_fact [] (RowC L) 75 rfl (by simp [Act.put]) (rowC_sta _) (by rfl) (by kernel_rfl) (by kernel_rfl) ?_ ?_
  · intro d os
    simp only [relAll]
    go_simp
    refine ⟨⟨_, 0, rfl, fun j hj => ?_⟩, (Below.refl _ _).alloc (Nat.le_of_eq Array.size_append.symm) _⟩
    rw [HL.out]
    match j, hj with
    | 0, _ => exact ⟨by go_simp, by go_simp, by go_simp⟩
    | 1, _ => exact ⟨by go_simp, by go_simp, by go_simp⟩
    | 2, _ => exact ⟨by go_simp, by go_simp, by go_simp⟩
    | 3, _ => exact ⟨by go_simp, by go_simp, by go_simp⟩
    | 4, _ => exact ⟨by go_simp, by go_simp, by go_simp⟩
    | 5, _ => exact ⟨by go_simp, by go_simp, by go_simp⟩
    | 6, _ => exact ⟨by go_simp, by go_simp, by go_simp⟩
    | 7, _ => exact ⟨by go_simp, by go_simp, by go_simp⟩
    | 8, _ => exact ⟨by go_simp, by go_simp, by go_simp⟩
    | 9, _ => exact ⟨by go_simp, by go_simp, by go_simp⟩
    | 10, _ => exact ⟨by go_simp, by go_simp, by go_simp⟩
    | 11, _ => exact ⟨by go_simp, by go_simp, by go_simp⟩
    | 12, _ => exact ⟨by go_simp, by go_simp, by go_simp⟩
    | 13, _ => exact ⟨by go_simp, by go_simp, by go_simp⟩
    | 14, _ => exact ⟨by go_simp, by go_simp, by go_simp⟩
    | 15, _ => exact ⟨by go_simp, by go_simp, by go_simp⟩
    | 16, _ => exact ⟨by go_simp, by go_simp, by go_simp⟩
    | 17, _ => exact ⟨by go_simp, by go_simp, by go_simp⟩
    | 18, _ => exact ⟨by go_simp, by go_simp, by go_simp⟩
    | 19, _ => exact ⟨by go_simp, by go_simp, by go_simp⟩
    | 20, _ => exact ⟨by go_simp, by go_simp, by go_simp⟩
    | 21, _ => exact ⟨by go_simp, by go_simp, by go_simp⟩
    | 22, _ => exact ⟨by go_simp, by go_simp, by go_simp⟩
    | k + 23, h => exact absurd h (by omega)
  refine rel_nil ?_
  intro d os
  simp only [relAll]
  rintro v1 hv1
  clear k0 k1 k2 k3 k4 k5 k6 k7 k8 k9 k10 k11 k12 k13 k14 k15 k16 k17 k18 k19 k20 k21 k22 HL ga0 a0 ga1 a1 ga2 a2 gb0 b0 gb1 b1 gb2 b2 gp0 p0 gp1 p1 gp2 p2 af bf pf lo
  replace C := C.below (below_regrown _ d os)
  generalize grow (redrawn _ d) os = w1 at C hv1 ⊢
  have LO := C.lo
  clear C
  go_wp2_with fail
  exact bodyPost_ret (v := v1) (by simp [results, Tryz.results10, go_sem]) rfl ⟨v1, rfl, hv1, LO⟩
end Go.Proofs.YtmaokbdjahgkiaaGreatDoor
namespace Go.Proofs.YtmaokbdjahgkiaaGreatDoor
open Go Go.RowKit Go.Sort
set_option linter.unusedVariables false
theorem rv_alike {n : Nat} {a b : Vx} (ha : a.ok n) (hb : b.ok n) : alikeB (Rv n a) (Rv n b) = true := by
  unfold alikeB Rv; rw [Rb.okB_of ha, Rb.okB_of hb]; simp
theorem rv_ok {n : Nat} {a : Vx} (ha : a.ok n) : (Rv n a).okB = true := Rb.okB_of ha
theorem rv_un {g : Nat → Nat} {f : Nat → Vx → Vx} {n : Nat} {a : Vx} (o : a.ok n) : unR g f (Rv n a) = Rv (g n) (f n a) := by unfold unR; rw [rv_ok o]; rfl
theorem rv_bi {f : Nat → Vx → Vx → Vx} {n : Nat} {a b : Vx} (ha : a.ok n) (hb : b.ok n) : biR f (Rv n a) (Rv n b) = Rv n (f n a b) := by unfold biR; rw [rv_alike ha hb]; rfl
theorem rv_nu {f : Nat → Vx → Vx → Vx} {n : Nat} {a b : Vx} (ha : a.ok n) (hb : b.ok n) : nuR f (Rv n a) (Rv n b) = Rv n (f n a b) := by unfold nuR; rw [rv_alike ha hb]; rfl
theorem rv_cm {f : Vx → Vx → Vx} {n : Nat} {a b : Vx} (ha : a.ok n) (hb : b.ok n) : cmR f (Rv n a) (Rv n b) = Rv 1 (f a b) := by unfold cmR; rw [rv_alike ha hb]; rfl
theorem rv_ln {n : Nat} {a : Vx} (o : a.ok n) : lnotR (Rv n a) = Rv 1 (vlnot a) := by unfold lnotR; rw [rv_ok o]; rfl
theorem rv_ng {n : Nat} {a : Vx} (o : a.ok n) : negR (Rv n a) = Rv n (vop n (· - ·) (kv n 0#64) a) := by unfold negR; rw [rv_ok o]; rfl
theorem rv_sh {op : Nat → Vx → Nat → Vx} {n m : Nat} {a c : Vx} (oa : a.ok n) (oc : c.ok m) : shR op (Rv n a) (Rv m c) = Rv n (if c.x = 0#64 then op n a c.v.toNat else fl n 3) := by
  unfold shR; rw [rv_ok oa, rv_ok oc, Bool.and_true, if_pos rfl]
  show (if c.x = 0#64 then _ else _) = _
  by_cases e : c.x = 0#64
  · rw [if_pos e, if_pos e]; rfl
  · rw [if_neg e, if_neg e]; rfl
theorem res_0 {n m : Nat} (s : Bool) {a b c : Vx} (ha : a.ok n) (hb : b.ok n) (hc : c.ok m) (w : World) : Calls Tryz.prog 15 #[.agg #[.int .i64 n, .int .u64 (U a.v), .int .u64 (U a.x)]] w fun e w' => e = .returned (.agg #[.int .i64 (Rv n (vnot n a)).W, .int .u64 (U (Rv n (vnot n a)).v), .int .u64 (U (Rv n (vnot n a)).x)]) ∧ Below w.heap.size w w' := by
  have h := not_any (Rv n a) w
  rw [rv_un ha] at h
  exact h
theorem res_1 {n m : Nat} (s : Bool) {a b c : Vx} (ha : a.ok n) (hb : b.ok n) (hc : c.ok m) (w : World) : Calls Tryz.prog 16 #[.agg #[.int .i64 n, .int .u64 (U a.v), .int .u64 (U a.x)], .agg #[.int .i64 n, .int .u64 (U b.v), .int .u64 (U b.x)]] w fun e w' => e = .returned (.agg #[.int .i64 (Rv n (vand n a b)).W, .int .u64 (U (Rv n (vand n a b)).v), .int .u64 (U (Rv n (vand n a b)).x)]) ∧ Below w.heap.size w w' := by
  have h := and_any (Rv n a) (Rv n b) w
  rw [rv_bi ha hb] at h
  exact h
theorem res_2 {n m : Nat} (s : Bool) {a b c : Vx} (ha : a.ok n) (hb : b.ok n) (hc : c.ok m) (w : World) : Calls Tryz.prog 17 #[.agg #[.int .i64 n, .int .u64 (U a.v), .int .u64 (U a.x)], .agg #[.int .i64 n, .int .u64 (U b.v), .int .u64 (U b.x)]] w fun e w' => e = .returned (.agg #[.int .i64 (Rv n (vor n a b)).W, .int .u64 (U (Rv n (vor n a b)).v), .int .u64 (U (Rv n (vor n a b)).x)]) ∧ Below w.heap.size w w' := by
  have h := or_any (Rv n a) (Rv n b) w
  rw [rv_bi ha hb] at h
  exact h
theorem res_3 {n m : Nat} (s : Bool) {a b c : Vx} (ha : a.ok n) (hb : b.ok n) (hc : c.ok m) (w : World) : Calls Tryz.prog 18 #[.agg #[.int .i64 n, .int .u64 (U a.v), .int .u64 (U a.x)], .agg #[.int .i64 n, .int .u64 (U b.v), .int .u64 (U b.x)]] w fun e w' => e = .returned (.agg #[.int .i64 (Rv n (vxor n a b)).W, .int .u64 (U (Rv n (vxor n a b)).v), .int .u64 (U (Rv n (vxor n a b)).x)]) ∧ Below w.heap.size w w' := by
  have h := xor_any (Rv n a) (Rv n b) w
  rw [rv_bi ha hb] at h
  exact h
theorem res_4 {n m : Nat} (s : Bool) {a b c : Vx} (ha : a.ok n) (hb : b.ok n) (hc : c.ok m) (w : World) : Calls Tryz.prog 19 #[.agg #[.int .i64 n, .int .u64 (U a.v), .int .u64 (U a.x)]] w fun e w' => e = .returned (.agg #[.int .i64 (Rv 1 (vnot 1 (redor (vnot n a)))).W, .int .u64 (U (Rv 1 (vnot 1 (redor (vnot n a)))).v), .int .u64 (U (Rv 1 (vnot 1 (redor (vnot n a)))).x)]) ∧ Below w.heap.size w w' := by
  have h := redand_any (Rv n a) w
  rw [rv_un ha, rv_un (vnot_ok ha), rv_un (redor_ok _)] at h
  exact h
theorem res_5 {n m : Nat} (s : Bool) {a b c : Vx} (ha : a.ok n) (hb : b.ok n) (hc : c.ok m) (w : World) : Calls Tryz.prog 20 #[.agg #[.int .i64 n, .int .u64 (U a.v), .int .u64 (U a.x)]] w fun e w' => e = .returned (.agg #[.int .i64 (Rv 1 (redor a)).W, .int .u64 (U (Rv 1 (redor a)).v), .int .u64 (U (Rv 1 (redor a)).x)]) ∧ Below w.heap.size w w' := by
  have h := redor_any (Rv n a) w
  rw [rv_un ha] at h
  exact h
theorem res_6 {n m : Nat} (s : Bool) {a b c : Vx} (ha : a.ok n) (hb : b.ok n) (hc : c.ok m) (w : World) : Calls Tryz.prog 21 #[.agg #[.int .i64 n, .int .u64 (U a.v), .int .u64 (U a.x)]] w fun e w' => e = .returned (.agg #[.int .i64 (Rv 1 (vredxor a)).W, .int .u64 (U (Rv 1 (vredxor a)).v), .int .u64 (U (Rv 1 (vredxor a)).x)]) ∧ Below w.heap.size w w' := by
  have h := redxor_any (Rv n a) w
  rw [rv_un ha] at h
  exact h
theorem res_7 {n m : Nat} (s : Bool) {a b c : Vx} (ha : a.ok n) (hb : b.ok n) (hc : c.ok m) (w : World) : Calls Tryz.prog 22 #[.agg #[.int .i64 n, .int .u64 (U a.v), .int .u64 (U a.x)]] w fun e w' => e = .returned (.agg #[.int .i64 (Rv 1 (vlnot a)).W, .int .u64 (U (Rv 1 (vlnot a)).v), .int .u64 (U (Rv 1 (vlnot a)).x)]) ∧ Below w.heap.size w w' := by
  have h := lnot_any (Rv n a) w
  rw [rv_ln ha] at h
  exact h
theorem res_8 {n m : Nat} (s : Bool) {a b c : Vx} (ha : a.ok n) (hb : b.ok n) (hc : c.ok m) (w : World) : Calls Tryz.prog 23 #[.agg #[.int .i64 n, .int .u64 (U a.v), .int .u64 (U a.x)], .agg #[.int .i64 m, .int .u64 (U c.v), .int .u64 (U c.x)]] w fun e w' => e = .returned (.agg #[.int .i64 (Rv 1 (vand 1 (redor a) (redor c))).W, .int .u64 (U (Rv 1 (vand 1 (redor a) (redor c))).v), .int .u64 (U (Rv 1 (vand 1 (redor a) (redor c))).x)]) ∧ Below w.heap.size w w' := by
  have h := land_any (Rv n a) (Rv m c) w
  rw [rv_un ha, rv_un hc, rv_bi (redor_ok _) (redor_ok _)] at h
  exact h
theorem res_9 {n m : Nat} (s : Bool) {a b c : Vx} (ha : a.ok n) (hb : b.ok n) (hc : c.ok m) (w : World) : Calls Tryz.prog 24 #[.agg #[.int .i64 n, .int .u64 (U a.v), .int .u64 (U a.x)], .agg #[.int .i64 m, .int .u64 (U c.v), .int .u64 (U c.x)]] w fun e w' => e = .returned (.agg #[.int .i64 (Rv 1 (vor 1 (redor a) (redor c))).W, .int .u64 (U (Rv 1 (vor 1 (redor a) (redor c))).v), .int .u64 (U (Rv 1 (vor 1 (redor a) (redor c))).x)]) ∧ Below w.heap.size w w' := by
  have h := lor_any (Rv n a) (Rv m c) w
  rw [rv_un ha, rv_un hc, rv_bi (redor_ok _) (redor_ok _)] at h
  exact h
theorem res_10 {n m : Nat} (s : Bool) {a b c : Vx} (ha : a.ok n) (hb : b.ok n) (hc : c.ok m) (w : World) : Calls Tryz.prog 25 #[.agg #[.int .i64 n, .int .u64 (U a.v), .int .u64 (U a.x)]] w fun e w' => e = .returned (.agg #[.int .i64 (Rv n (vop n (· - ·) (kv n 0#64) a)).W, .int .u64 (U (Rv n (vop n (· - ·) (kv n 0#64) a)).v), .int .u64 (U (Rv n (vop n (· - ·) (kv n 0#64) a)).x)]) ∧ Below w.heap.size w w' := by
  have h := neg_any (Rv n a) w
  rw [rv_ng ha] at h
  exact h
theorem res_11 {n m : Nat} (s : Bool) {a b c : Vx} (ha : a.ok n) (hb : b.ok n) (hc : c.ok m) (w : World) : Calls Tryz.prog 26 #[.agg #[.int .i64 n, .int .u64 (U a.v), .int .u64 (U a.x)], .agg #[.int .i64 n, .int .u64 (U b.v), .int .u64 (U b.x)]] w fun e w' => e = .returned (.agg #[.int .i64 (Rv n (vop n (· + ·) a b)).W, .int .u64 (U (Rv n (vop n (· + ·) a b)).v), .int .u64 (U (Rv n (vop n (· + ·) a b)).x)]) ∧ Below w.heap.size w w' := by
  have h := add_any (Rv n a) (Rv n b) w
  rw [rv_nu ha hb] at h
  exact h
theorem res_12 {n m : Nat} (s : Bool) {a b c : Vx} (ha : a.ok n) (hb : b.ok n) (hc : c.ok m) (w : World) : Calls Tryz.prog 27 #[.agg #[.int .i64 n, .int .u64 (U a.v), .int .u64 (U a.x)], .agg #[.int .i64 n, .int .u64 (U b.v), .int .u64 (U b.x)]] w fun e w' => e = .returned (.agg #[.int .i64 (Rv n (vop n (· - ·) a b)).W, .int .u64 (U (Rv n (vop n (· - ·) a b)).v), .int .u64 (U (Rv n (vop n (· - ·) a b)).x)]) ∧ Below w.heap.size w w' := by
  have h := sub_any (Rv n a) (Rv n b) w
  rw [rv_nu ha hb] at h
  exact h
theorem res_13 {n m : Nat} (s : Bool) {a b c : Vx} (ha : a.ok n) (hb : b.ok n) (hc : c.ok m) (w : World) : Calls Tryz.prog 28 #[.agg #[.int .i64 n, .int .u64 (U a.v), .int .u64 (U a.x)], .agg #[.int .i64 n, .int .u64 (U b.v), .int .u64 (U b.x)]] w fun e w' => e = .returned (.agg #[.int .i64 (Rv n (vop n (· * ·) a b)).W, .int .u64 (U (Rv n (vop n (· * ·) a b)).v), .int .u64 (U (Rv n (vop n (· * ·) a b)).x)]) ∧ Below w.heap.size w w' := by
  have h := mul_any (Rv n a) (Rv n b) w
  rw [rv_nu ha hb] at h
  exact h
theorem res_14 {n m : Nat} (s : Bool) {a b c : Vx} (ha : a.ok n) (hb : b.ok n) (hc : c.ok m) (w : World) : Calls Tryz.prog 29 #[.agg #[.int .i64 n, .int .u64 (U a.v), .int .u64 (U a.x)], .agg #[.int .i64 m, .int .u64 (U c.v), .int .u64 (U c.x)]] w fun e w' => e = .returned (.agg #[.int .i64 (Rv n (if c.x = 0#64 then vshl n a c.v.toNat else fl n 3)).W, .int .u64 (U (Rv n (if c.x = 0#64 then vshl n a c.v.toNat else fl n 3)).v), .int .u64 (U (Rv n (if c.x = 0#64 then vshl n a c.v.toNat else fl n 3)).x)]) ∧ Below w.heap.size w w' := by
  have h := shl_any (Rv n a) (Rv m c) w
  rw [rv_sh ha hc] at h
  exact h
theorem res_15 {n m : Nat} (s : Bool) {a b c : Vx} (ha : a.ok n) (hb : b.ok n) (hc : c.ok m) (w : World) : Calls Tryz.prog 30 #[.agg #[.int .i64 n, .int .u64 (U a.v), .int .u64 (U a.x)], .agg #[.int .i64 m, .int .u64 (U c.v), .int .u64 (U c.x)]] w fun e w' => e = .returned (.agg #[.int .i64 (Rv n (if c.x = 0#64 then vshr n a c.v.toNat else fl n 3)).W, .int .u64 (U (Rv n (if c.x = 0#64 then vshr n a c.v.toNat else fl n 3)).v), .int .u64 (U (Rv n (if c.x = 0#64 then vshr n a c.v.toNat else fl n 3)).x)]) ∧ Below w.heap.size w w' := by
  have h := shr_any (Rv n a) (Rv m c) w
  rw [rv_sh ha hc] at h
  exact h
theorem res_16 {n m : Nat} (s : Bool) {a b c : Vx} (ha : a.ok n) (hb : b.ok n) (hc : c.ok m) (w : World) : Calls Tryz.prog 31 #[.agg #[.int .i64 n, .int .u64 (U a.v), .int .u64 (U a.x)], .agg #[.int .i64 m, .int .u64 (U c.v), .int .u64 (U c.x)]] w fun e w' => e = .returned (.agg #[.int .i64 (Rv n (if c.x = 0#64 then vsar n a c.v.toNat else fl n 3)).W, .int .u64 (U (Rv n (if c.x = 0#64 then vsar n a c.v.toNat else fl n 3)).v), .int .u64 (U (Rv n (if c.x = 0#64 then vsar n a c.v.toNat else fl n 3)).x)]) ∧ Below w.heap.size w w' := by
  have h := sar_any (Rv n a) (Rv m c) w
  rw [rv_sh ha hc] at h
  exact h
theorem res_17 {n m : Nat} (s : Bool) {a b c : Vx} (ha : a.ok n) (hb : b.ok n) (hc : c.ok m) (w : World) : Calls Tryz.prog 32 #[.agg #[.int .i64 n, .int .u64 (U a.v), .int .u64 (U a.x)], .agg #[.int .i64 n, .int .u64 (U b.v), .int .u64 (U b.x)]] w fun e w' => e = .returned (.agg #[.int .i64 (Rv 1 (veq a b)).W, .int .u64 (U (Rv 1 (veq a b)).v), .int .u64 (U (Rv 1 (veq a b)).x)]) ∧ Below w.heap.size w w' := by
  have h := eq_any (Rv n a) (Rv n b) w
  rw [rv_cm ha hb] at h
  exact h
theorem res_18 {n m : Nat} (s : Bool) {a b c : Vx} (ha : a.ok n) (hb : b.ok n) (hc : c.ok m) (w : World) : Calls Tryz.prog 33 #[.agg #[.int .i64 n, .int .u64 (U a.v), .int .u64 (U a.x)], .agg #[.int .i64 n, .int .u64 (U b.v), .int .u64 (U b.x)]] w fun e w' => e = .returned (.agg #[.int .i64 (Rv 1 (vlnot (veq a b))).W, .int .u64 (U (Rv 1 (vlnot (veq a b))).v), .int .u64 (U (Rv 1 (vlnot (veq a b))).x)]) ∧ Below w.heap.size w w' := by
  have h := ne_any (Rv n a) (Rv n b) w
  rw [rv_cm ha hb, rv_ln (veq_ok _ _)] at h
  exact h
theorem res_19 {n m : Nat} (s : Bool) {a b c : Vx} (ha : a.ok n) (hb : b.ok n) (hc : c.ok m) (w : World) : Calls Tryz.prog 34 #[.agg #[.int .i64 n, .int .u64 (U a.v), .int .u64 (U a.x)], .agg #[.int .i64 n, .int .u64 (U b.v), .int .u64 (U b.x)], .bool s] w fun e w' => e = .returned (.agg #[.int .i64 (Rv 1 (vlt n s a b)).W, .int .u64 (U (Rv 1 (vlt n s a b)).v), .int .u64 (U (Rv 1 (vlt n s a b)).x)]) ∧ Below w.heap.size w w' := by
  have h := lt_any (Rv n a) (Rv n b) s w
  rw [rv_cm ha hb] at h
  exact h
theorem res_20 {n m : Nat} (s : Bool) {a b c : Vx} (ha : a.ok n) (hb : b.ok n) (hc : c.ok m) (w : World) : Calls Tryz.prog 35 #[.agg #[.int .i64 n, .int .u64 (U a.v), .int .u64 (U a.x)], .agg #[.int .i64 n, .int .u64 (U b.v), .int .u64 (U b.x)], .bool s] w fun e w' => e = .returned (.agg #[.int .i64 (Rv 1 (vlnot (vlt n s b a))).W, .int .u64 (U (Rv 1 (vlnot (vlt n s b a))).v), .int .u64 (U (Rv 1 (vlnot (vlt n s b a))).x)]) ∧ Below w.heap.size w w' := by
  have h := le_any (Rv n a) (Rv n b) s w
  rw [rv_cm hb ha, rv_ln (vlt_ok _ _ _ _)] at h
  exact h
theorem res_21 {n m : Nat} (s : Bool) {a b c : Vx} (ha : a.ok n) (hb : b.ok n) (hc : c.ok m) (w : World) : Calls Tryz.prog 36 #[.agg #[.int .i64 m, .int .u64 (U c.v), .int .u64 (U c.x)], .agg #[.int .i64 n, .int .u64 (U a.v), .int .u64 (U a.x)], .agg #[.int .i64 n, .int .u64 (U b.v), .int .u64 (U b.x)]] w fun e w' => e = .returned (.agg #[.int .i64 (Rv n (vcond n c a b)).W, .int .u64 (U (Rv n (vcond n c a b)).v), .int .u64 (U (Rv n (vcond n c a b)).x)]) ∧ Below w.heap.size w w' := by
  have h := cond_ok n m c a b w hc ha hb
  exact h
theorem res_22 {n m : Nat} (s : Bool) {a b c : Vx} (ha : a.ok n) (hb : b.ok n) (hc : c.ok m) (w : World) : Calls Tryz.prog 37 #[.agg #[.int .i64 n, .int .u64 (U a.v), .int .u64 (U a.x)], .int .i64 64, .bool s] w fun e w' => e = .returned (.agg #[.int .i64 (Rv 64 (if s then vext n 64 a else vcut 64 a)).W, .int .u64 (U (Rv 64 (if s then vext n 64 a else vcut 64 a)).v), .int .u64 (U (Rv 64 (if s then vext n 64 a else vcut 64 a)).x)]) ∧ Below w.heap.size w w' := by
  cases s
  · exact resize_false n 64 a w ha ha.lo ha.hi (by decide) (by decide)
  · exact resize_true n 64 a w ha ha.lo ha.hi (by decide) (by decide)
theorem results_ok {n m : Nat} (s : Bool) {a b c : Vx} (ha : a.ok n) (hb : b.ok n) (hc : c.ok m) (w : World) : Calls Tryz.prog 10 #[.agg #[.int .i64 n, .int .u64 (U a.v), .int .u64 (U a.x)], .agg #[.int .i64 n, .int .u64 (U b.v), .int .u64 (U b.x)], .agg #[.int .i64 m, .int .u64 (U c.v), .int .u64 (U c.x)], .bool s] w fun e w' => ∃ v, e = .returned v ∧ RowC (resV n s a b c) v w' ∧ Below w.heap.size w w' :=
  results_abs (Rv n a) (Rv n b) (Rv m c) s _ _ _ _ _ _ _ _ _ _ _ _ _ _ _ _ _ _ _ _ _ _ _ (res_0 s ha hb hc) (res_1 s ha hb hc) (res_2 s ha hb hc) (res_3 s ha hb hc) (res_4 s ha hb hc) (res_5 s ha hb hc) (res_6 s ha hb hc) (res_7 s ha hb hc) (res_8 s ha hb hc) (res_9 s ha hb hc) (res_10 s ha hb hc) (res_11 s ha hb hc) (res_12 s ha hb hc) (res_13 s ha hb hc) (res_14 s ha hb hc) (res_15 s ha hb hc) (res_16 s ha hb hc) (res_17 s ha hb hc) (res_18 s ha hb hc) (res_19 s ha hb hc) (res_20 s ha hb hc) (res_21 s ha hb hc) (res_22 s ha hb hc) w
end Go.Proofs.YtmaokbdjahgkiaaGreatDoor
