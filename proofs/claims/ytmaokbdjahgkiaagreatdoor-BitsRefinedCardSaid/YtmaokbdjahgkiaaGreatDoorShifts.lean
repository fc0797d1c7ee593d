/- Shl, Shr and Sar of any vectors. -/
import Derived.Test.YtmaokbdjahgkiaaGreatDoorTwo
import Derived.Test.YtmaokbdjahgkiaaGreatDoorShiftMath
import Derived.Test.YtmaokbdjahgkiaaGreatDoorRelC
import Derived.Lib.QuietBelow
namespace Go.Proofs.YtmaokbdjahgkiaaGreatDoor
open Go Go.RowKit Go.Sort
set_option linter.unusedVariables false
theorem shr1_s (v k : BitVec 64) (w : World) : Calls Tryz.prog 57 #[.int .u64 (U v), .int .u64 (U k)] w fun e w' => e = .returned (.int .u64 (U (v >>> k.toNat))) ∧ w = w' := by
  go_enter Tryz.func57, Tryz.ntmps57
  go_wp2_with fail
  go_ret
  exact ⟨rfl, rfl⟩
theorem shl1_s (v k : BitVec 64) (w : World) : Calls Tryz.prog 56 #[.int .u64 (U v), .int .u64 (U k)] w fun e w' => e = .returned (.int .u64 (U (v <<< k.toNat))) ∧ w = w' := (shl1_q v k w).mono fun _ _ ⟨a, b⟩ => ⟨a, b.symm⟩
theorem sshr_min (a : BitVec 64) (k : Nat) : a.sshiftRight k = a.sshiftRight (min k 64) := by
  apply BitVec.eq_of_getLsbD_eq
  intro i hi
  rw [BitVec.getLsbD_sshiftRight, BitVec.getLsbD_sshiftRight]
  by_cases h : k ≤ 64
  · rw [Nat.min_eq_left h]
  · rw [Nat.min_eq_right (by omega), if_neg (show ¬ k + i < 64 by omega), if_neg (show ¬ 64 + i < 64 by omega)]
theorem shr_S (a : BitVec 64) (n : BitVec 64) (yk : IntKind) : Op.shift .shr .i64 (S a) yk (U n) = pure (.int .i64 (S (a.sshiftRight n.toNat))) := by
  have h0 : ¬ ((n.toNat : Int) < 0) := by omega
  show Op.shift .shr .i64 (S a) yk ((n.toNat : Nat) : Int) = _
  simp only [Op.shift, go_sem, h0, if_false, Int.toNat_natCast]
  first | rw [Int.fdiv_eq_ediv_of_nonneg _ (Int.le_of_lt (Int.pow_pos (by decide)))] | skip
  rw [S_shr, ← sshr_min]
attribute [go_sem] shr_S
theorem sar1_s (n : Nat) (h1 : 1 ≤ n) (h2 : n ≤ 64) (v k : BitVec 64) (p : Nat) (w : World) (hp : w.cell? ⟨p, 0, none⟩ = some (.int .i64 n)) : Calls Tryz.prog 58 #[.int .u64 (U v), .int .u64 (U k), .pointer (some ⟨p, 0, none⟩)] w fun e w' => e = .returned (.int .u64 (U ((ext n v).sshiftRight k.toNat))) ∧ w = w' := by
  go_enter Tryz.func58, Tryz.ntmps58
  go_wp2_with fail
  refine (extend_ok n v w h1 h2).mono ?_
  rintro e w' ⟨rfl, rfl⟩
  go_wp2_with fail
  go_ret
  exact ⟨rfl, rfl⟩
set_option maxRecDepth 100000 in
set_option maxHeartbeats 1000000 in
theorem shift_ia (a c : Rb) (fv : Value) (w : World) (h : a.okB = false) : Calls Tryz.prog 55 #[.agg #[.int .i64 a.W, .int .u64 (U a.v), .int .u64 (U a.x)], .agg #[.int .i64 c.W, .int .u64 (U c.v), .int .u64 (U c.x)], fv] w fun e w' => e = .returned (.agg #[.int .i64 0, .int .u64 0, .int .u64 0]) ∧ Below w.heap.size w w' := by
  obtain ⟨aW, av, ax⟩ := a
  obtain ⟨bW, bv, bx⟩ := c
  have va := Lib.hid fun w => valid_no aW av ax w h
  clear h
  show Calls Tryz.prog 55 #[.agg #[.int .i64 aW, .int .u64 (U av), .int .u64 (U ax)], .agg #[.int .i64 bW, .int .u64 (U bv), .int .u64 (U bx)], fv] w _
  go_enter Tryz.func55, Tryz.ntmps55
  go_wp2_with fail
  have C := tb_new (w := w) ⟨aW, av, ax⟩ ⟨bW, bv, bx⟩
  generalize (((w.alloc (Obj.cells #[Value.int IntKind.i64 aW, Value.int IntKind.u64 (U av), Value.int IntKind.u64 (U ax)] 29)).alloc (Obj.cells #[Value.int IntKind.i64 bW, Value.int IntKind.u64 (U bv), Value.int IntKind.u64 (U bx)] 29)).alloc (Obj.cells #[Value.int IntKind.i64 0, Value.int IntKind.u64 0, Value.int IntKind.u64 0] 29)) = W at C ⊢
  obtain ⟨⟨a0, a1, a2, af⟩, ⟨b0, b1, b2, bf⟩, ⟨p0, p1, p2, pf⟩, lo⟩ := id C
  go_wp2_with fail
  refine (va.out _).mono ?_
  rintro e W1 ⟨rfl, hb⟩
  replace C := C.below hb
  clear a0 a1 a2 af b0 b1 b2 bf p0 p1 p2 pf lo hb
  obtain ⟨⟨a0, a1, a2, af⟩, ⟨b0, b1, b2, bf⟩, ⟨p0, p1, p2, pf⟩, lo⟩ := id C
  go_wp2_with fail
  replace C := C.put 0 0 0
  clear a0 a1 a2 af b0 b1 b2 bf p0 p1 p2 pf lo
  obtain ⟨⟨a0, a1, a2, af⟩, ⟨b0, b1, b2, bf⟩, ⟨p0, p1, p2, pf⟩, lo⟩ := C
  exact bodyPost_ret (v := .agg #[.int .i64 0, .int .u64 0, .int .u64 0]) (by simp [results, Tryz.results55, go_sem, p0, p1, p2]) rfl ⟨rfl, lo⟩
set_option maxRecDepth 100000 in
set_option maxHeartbeats 1000000 in
theorem shift_ib (n : Nat) (a : Vx) (c : Rb) (fv : Value) (w : World) (ha : a.ok n) (h : c.okB = false) : Calls Tryz.prog 55 #[.agg #[.int .i64 n, .int .u64 (U a.v), .int .u64 (U a.x)], .agg #[.int .i64 c.W, .int .u64 (U c.v), .int .u64 (U c.x)], fv] w fun e w' => e = .returned (.agg #[.int .i64 0, .int .u64 0, .int .u64 0]) ∧ Below w.heap.size w w' := by
  obtain ⟨av, ax⟩ := a
  obtain ⟨bW, bv, bx⟩ := c
  have va := Lib.hid fun w => valid_ok n av ax w ha
  have vb := Lib.hid fun w => valid_no bW bv bx w h
  clear ha h
  show Calls Tryz.prog 55 #[.agg #[.int .i64 n, .int .u64 (U av), .int .u64 (U ax)], .agg #[.int .i64 bW, .int .u64 (U bv), .int .u64 (U bx)], fv] w _
  go_enter Tryz.func55, Tryz.ntmps55
  go_wp2_with fail
  have C := tb_new (w := w) ⟨n, av, ax⟩ ⟨bW, bv, bx⟩
  generalize (((w.alloc (Obj.cells #[Value.int IntKind.i64 n, Value.int IntKind.u64 (U av), Value.int IntKind.u64 (U ax)] 29)).alloc (Obj.cells #[Value.int IntKind.i64 bW, Value.int IntKind.u64 (U bv), Value.int IntKind.u64 (U bx)] 29)).alloc (Obj.cells #[Value.int IntKind.i64 0, Value.int IntKind.u64 0, Value.int IntKind.u64 0] 29)) = W at C ⊢
  obtain ⟨⟨a0, a1, a2, af⟩, ⟨b0, b1, b2, bf⟩, ⟨p0, p1, p2, pf⟩, lo⟩ := id C
  go_wp2_with fail
  refine (va.out _).mono ?_
  rintro e W1 ⟨rfl, hb⟩
  replace C := C.below hb
  clear a0 a1 a2 af b0 b1 b2 bf p0 p1 p2 pf lo hb
  obtain ⟨⟨a0, a1, a2, af⟩, ⟨b0, b1, b2, bf⟩, ⟨p0, p1, p2, pf⟩, lo⟩ := id C
  go_wp2_with fail
  refine (vb.out _).mono ?_
  rintro e W2 ⟨rfl, hb⟩
  replace C := C.below hb
  clear a0 a1 a2 af b0 b1 b2 bf p0 p1 p2 pf lo hb
  obtain ⟨⟨a0, a1, a2, af⟩, ⟨b0, b1, b2, bf⟩, ⟨p0, p1, p2, pf⟩, lo⟩ := id C
  go_wp2_with fail
  replace C := C.put 0 0 0
  clear a0 a1 a2 af b0 b1 b2 bf p0 p1 p2 pf lo
  obtain ⟨⟨a0, a1, a2, af⟩, ⟨b0, b1, b2, bf⟩, ⟨p0, p1, p2, pf⟩, lo⟩ := C
  exact bodyPost_ret (v := .agg #[.int .i64 0, .int .u64 0, .int .u64 0]) (by simp [results, Tryz.results55, go_sem, p0, p1, p2]) rfl ⟨rfl, lo⟩
set_option maxRecDepth 100000 in
set_option maxHeartbeats 1000000 in
theorem shift_xx (n m : Nat) (a c : Vx) (fv : Value) (w : World) (ha : a.ok n) (hc : c.ok m) (hx : (c.x == 0#64) = false) : Calls Tryz.prog 55 #[.agg #[.int .i64 n, .int .u64 (U a.v), .int .u64 (U a.x)], .agg #[.int .i64 m, .int .u64 (U c.v), .int .u64 (U c.x)], fv] w fun e w' => e = .returned (.agg #[.int .i64 n, .int .u64 (U (fl n 3).v), .int .u64 (U (fl n 3).x)]) ∧ Below w.heap.size w w' := by
  obtain ⟨av, ax⟩ := a
  obtain ⟨cv, cx⟩ := c
  have va := Lib.hid fun w => valid_ok n av ax w ha
  have vb := Lib.hid fun w => valid_ok m cv cx w hc
  have vu := Lib.hid fun w => uint_no m ⟨cv, cx⟩ w hc hx
  have vl9 := Lib.hid fun w => all_x n w ha.lo ha.hi
  clear ha hc hx
  generalize fl n 3 = P at vl9 ⊢
  show Calls Tryz.prog 55 #[.agg #[.int .i64 n, .int .u64 (U av), .int .u64 (U ax)], .agg #[.int .i64 m, .int .u64 (U cv), .int .u64 (U cx)], fv] w _
  go_enter Tryz.func55, Tryz.ntmps55
  go_wp2_with fail
  have C := tb_new (w := w) ⟨n, av, ax⟩ ⟨m, cv, cx⟩
  generalize (((w.alloc (Obj.cells #[Value.int IntKind.i64 n, Value.int IntKind.u64 (U av), Value.int IntKind.u64 (U ax)] 29)).alloc (Obj.cells #[Value.int IntKind.i64 m, Value.int IntKind.u64 (U cv), Value.int IntKind.u64 (U cx)] 29)).alloc (Obj.cells #[Value.int IntKind.i64 0, Value.int IntKind.u64 0, Value.int IntKind.u64 0] 29)) = W at C ⊢
  obtain ⟨⟨a0, a1, a2, af⟩, ⟨b0, b1, b2, bf⟩, ⟨p0, p1, p2, pf⟩, lo⟩ := id C
  go_wp2_with fail
  refine (va.out _).mono ?_
  rintro e W1 ⟨rfl, hb⟩
  replace C := C.below hb
  clear a0 a1 a2 af b0 b1 b2 bf p0 p1 p2 pf lo hb
  obtain ⟨⟨a0, a1, a2, af⟩, ⟨b0, b1, b2, bf⟩, ⟨p0, p1, p2, pf⟩, lo⟩ := id C
  go_wp2_with fail
  refine (vb.out _).mono ?_
  rintro e W2 ⟨rfl, hb⟩
  replace C := C.below hb
  clear a0 a1 a2 af b0 b1 b2 bf p0 p1 p2 pf lo hb
  obtain ⟨⟨a0, a1, a2, af⟩, ⟨b0, b1, b2, bf⟩, ⟨p0, p1, p2, pf⟩, lo⟩ := id C
  go_wp2_with fail
  refine (vu.out _).mono ?_
  rintro e W3 ⟨rfl, hb⟩
  replace C := C.below hb
  clear a0 a1 a2 af b0 b1 b2 bf p0 p1 p2 pf lo hb
  obtain ⟨⟨a0, a1, a2, af⟩, ⟨b0, b1, b2, bf⟩, ⟨p0, p1, p2, pf⟩, lo⟩ := id C
  go_wp2_with fail
  refine (vl9.out _).mono ?_
  rintro e W4 ⟨rfl, hb⟩
  replace C := C.below hb
  clear a0 a1 a2 af b0 b1 b2 bf p0 p1 p2 pf lo hb
  obtain ⟨⟨a0, a1, a2, af⟩, ⟨b0, b1, b2, bf⟩, ⟨p0, p1, p2, pf⟩, lo⟩ := id C
  go_wp2_with fail
  replace C := C.put n (U P.v) (U P.x)
  clear a0 a1 a2 af b0 b1 b2 bf p0 p1 p2 pf lo
  obtain ⟨⟨a0, a1, a2, af⟩, ⟨b0, b1, b2, bf⟩, ⟨p0, p1, p2, pf⟩, lo⟩ := C
  exact bodyPost_ret (v := .agg #[.int .i64 n, .int .u64 (U P.v), .int .u64 (U P.x)]) (by simp [results, Tryz.results55, go_sem, p0, p1, p2]) rfl ⟨rfl, lo⟩
set_option maxRecDepth 100000 in
set_option maxHeartbeats 4000000 in
theorem shift_Shl (n m : Nat) (a c : Vx) (w : World) (ha : a.ok n) (hc : c.ok m) (hx : (c.x == 0#64) = true) : Calls Tryz.prog 55 #[.agg #[.int .i64 n, .int .u64 (U a.v), .int .u64 (U a.x)], .agg #[.int .i64 m, .int .u64 (U c.v), .int .u64 (U c.x)], .func (.func 56) #[] #[]] w fun e w' => e = .returned (.agg #[.int .i64 n, .int .u64 (U (a.v <<< c.v.toNat &&& msk n)), .int .u64 (U (a.x <<< c.v.toNat &&& msk n))]) ∧ Below w.heap.size w w' := by
  obtain ⟨av, ax⟩ := a
  obtain ⟨cv, cx⟩ := c
  have va := Lib.hid fun w => valid_ok n av ax w ha
  have vb := Lib.hid fun w => valid_ok m cv cx w hc
  have vu := Lib.hid fun w => uint_yes m ⟨cv, cx⟩ w hc hx
  have vm := Lib.hid fun w => mask_any n ha.hi w
  have hn := ha.hi
  have hlo := ha.lo
  clear ha hc hx
  show Calls Tryz.prog 55 #[.agg #[.int .i64 n, .int .u64 (U av), .int .u64 (U ax)], .agg #[.int .i64 m, .int .u64 (U cv), .int .u64 (U cx)], .func (.func 56) #[] #[]] w fun e w' => e = .returned (.agg #[.int .i64 n, .int .u64 (U (av <<< cv.toNat &&& msk n)), .int .u64 (U (ax <<< cv.toNat &&& msk n))]) ∧ Below w.heap.size w w'
  go_enter Tryz.func55, Tryz.ntmps55
  go_wp2_with fail
  have C := tb_new (w := w) ⟨n, av, ax⟩ ⟨m, cv, cx⟩
  generalize (((w.alloc (Obj.cells #[Value.int IntKind.i64 n, Value.int IntKind.u64 (U av), Value.int IntKind.u64 (U ax)] 29)).alloc (Obj.cells #[Value.int IntKind.i64 m, Value.int IntKind.u64 (U cv), Value.int IntKind.u64 (U cx)] 29)).alloc (Obj.cells #[Value.int IntKind.i64 0, Value.int IntKind.u64 0, Value.int IntKind.u64 0] 29)) = W at C ⊢
  obtain ⟨⟨a0, a1, a2, af⟩, ⟨b0, b1, b2, bf⟩, ⟨p0, p1, p2, pf⟩, lo⟩ := id C
  go_wp2_with fail
  refine (va.out _).mono ?_
  rintro e W1 ⟨rfl, hb⟩
  replace C := C.below hb
  clear a0 a1 a2 af b0 b1 b2 bf p0 p1 p2 pf lo hb
  obtain ⟨⟨a0, a1, a2, af⟩, ⟨b0, b1, b2, bf⟩, ⟨p0, p1, p2, pf⟩, lo⟩ := id C
  go_wp2_with fail
  refine (vb.out _).mono ?_
  rintro e W2 ⟨rfl, hb⟩
  replace C := C.below hb
  clear a0 a1 a2 af b0 b1 b2 bf p0 p1 p2 pf lo hb
  obtain ⟨⟨a0, a1, a2, af⟩, ⟨b0, b1, b2, bf⟩, ⟨p0, p1, p2, pf⟩, lo⟩ := id C
  go_wp2_with fail
  refine (vu.out _).mono ?_
  rintro e W3 ⟨rfl, hb⟩
  replace C := C.below hb
  clear a0 a1 a2 af b0 b1 b2 bf p0 p1 p2 pf lo hb
  obtain ⟨⟨a0, a1, a2, af⟩, ⟨b0, b1, b2, bf⟩, ⟨p0, p1, p2, pf⟩, lo⟩ := id C
  go_wp2_with fail
  have ga0 := cell_regrown a0
  have ga1 := cell_regrown a1
  have ga2 := cell_regrown a2
  refine wp_region_rel 21 (by kernel_rfl) (by kernel_rfl) ?_
  simp only [List.take_succ_cons, List.take_zero, List.drop_succ_cons, List.drop_zero]
  (refine rel_fix0 (fun K hK => ?_); go_simp; refine hK _ ?_; clear hK K)
  (refine rel_fix0 (fun K hK => ?_); go_simp; refine hK _ ?_; clear hK K)
  (refine rel_fix0 (fun K hK => ?_); go_simp; refine hK _ ?_; clear hK K)
  (refine rel_fix0 (fun K hK => ?_); go_simp; refine hK _ ?_; clear hK K)
  (refine rel_fix0 (fun K hK => ?_); go_simp; refine hK _ ?_; clear hK K)
  (refine rel_fix0 (fun K hK => ?_); go_simp; refine hK _ ?_; clear hK K)
  (refine rel_fix0 (fun K hK => ?_); go_simp; apply Exists.intro; refine ⟨fun _ _ => ?_, hK _ ?_⟩; (with_reducible exact ret_same (shl1_s av cv _)); clear hK K)
  (refine rel_fix0 (fun K hK => ?_); go_simp; refine hK _ ?_; clear hK K)
  (refine rel_fix0 (fun K hK => ?_); go_simp; refine hK _ ?_; clear hK K)
  (refine rel_fix0 (fun K hK => ?_); go_simp; apply Exists.intro; refine ⟨fun _ _ => ?_, hK _ ?_⟩; (with_reducible exact ret_same (vm.out _)); clear hK K)
  (refine rel_fix0 (fun K hK => ?_); go_simp; refine hK _ ?_; clear hK K)
  (refine rel_fix0 (fun K hK => ?_); go_simp; refine hK _ ?_; clear hK K)
  (refine rel_fix0 (fun K hK => ?_); go_simp; refine hK _ ?_; clear hK K)
  (refine rel_fix0 (fun K hK => ?_); go_simp; refine hK _ ?_; clear hK K)
  (refine rel_fix0 (fun K hK => ?_); go_simp; refine hK _ ?_; clear hK K)
  (refine rel_fix0 (fun K hK => ?_); go_simp; apply Exists.intro; refine ⟨fun _ _ => ?_, hK _ ?_⟩; (with_reducible exact ret_same (shl1_s ax cv _)); clear hK K)
  (refine rel_fix0 (fun K hK => ?_); go_simp; refine hK _ ?_; clear hK K)
  (refine rel_fix0 (fun K hK => ?_); go_simp; refine hK _ ?_; clear hK K)
  (refine rel_fix0 (fun K hK => ?_); go_simp; apply Exists.intro; refine ⟨fun _ _ => ?_, hK _ ?_⟩; (with_reducible exact ret_same (vm.out _)); clear hK K)
  (refine rel_fix0 (fun K hK => ?_); go_simp; refine hK _ ?_; clear hK K)
  (refine rel_fix0 (fun K hK => ?_); go_simp; refine hK _ ?_; clear hK K)
  refine rel_nil ?_
  intro d os
  simp only [relAll]
  clear ga0 ga1 ga2
  clear a0 a1 a2 af b0 b1 b2 bf p0 p1 p2 pf lo
  replace C := C.below (below_regrown _ d os)
  generalize grow (redrawn _ d) os = W9 at C ⊢
  obtain ⟨⟨a0, a1, a2, af⟩, ⟨b0, b1, b2, bf⟩, ⟨p0, p1, p2, pf⟩, lo⟩ := id C
  go_wp2_with fail
  replace C := C.put n (U (av <<< cv.toNat &&& msk n)) (U (ax <<< cv.toNat &&& msk n))
  clear a0 a1 a2 af b0 b1 b2 bf p0 p1 p2 pf lo
  obtain ⟨⟨a0, a1, a2, af⟩, ⟨b0, b1, b2, bf⟩, ⟨p0, p1, p2, pf⟩, lo⟩ := C
  exact bodyPost_ret (v := .agg #[.int .i64 n, .int .u64 (U (av <<< cv.toNat &&& msk n)), .int .u64 (U (ax <<< cv.toNat &&& msk n))]) (by simp [results, Tryz.results55, go_sem, p0, p1, p2]) rfl ⟨rfl, lo⟩
set_option maxRecDepth 100000 in
set_option maxHeartbeats 4000000 in
theorem shift_Shr (n m : Nat) (a c : Vx) (w : World) (ha : a.ok n) (hc : c.ok m) (hx : (c.x == 0#64) = true) : Calls Tryz.prog 55 #[.agg #[.int .i64 n, .int .u64 (U a.v), .int .u64 (U a.x)], .agg #[.int .i64 m, .int .u64 (U c.v), .int .u64 (U c.x)], .func (.func 57) #[] #[]] w fun e w' => e = .returned (.agg #[.int .i64 n, .int .u64 (U (a.v >>> c.v.toNat &&& msk n)), .int .u64 (U (a.x >>> c.v.toNat &&& msk n))]) ∧ Below w.heap.size w w' := by
  obtain ⟨av, ax⟩ := a
  obtain ⟨cv, cx⟩ := c
  have va := Lib.hid fun w => valid_ok n av ax w ha
  have vb := Lib.hid fun w => valid_ok m cv cx w hc
  have vu := Lib.hid fun w => uint_yes m ⟨cv, cx⟩ w hc hx
  have vm := Lib.hid fun w => mask_any n ha.hi w
  have hn := ha.hi
  have hlo := ha.lo
  clear ha hc hx
  show Calls Tryz.prog 55 #[.agg #[.int .i64 n, .int .u64 (U av), .int .u64 (U ax)], .agg #[.int .i64 m, .int .u64 (U cv), .int .u64 (U cx)], .func (.func 57) #[] #[]] w fun e w' => e = .returned (.agg #[.int .i64 n, .int .u64 (U (av >>> cv.toNat &&& msk n)), .int .u64 (U (ax >>> cv.toNat &&& msk n))]) ∧ Below w.heap.size w w'
  go_enter Tryz.func55, Tryz.ntmps55
  go_wp2_with fail
  have C := tb_new (w := w) ⟨n, av, ax⟩ ⟨m, cv, cx⟩
  generalize (((w.alloc (Obj.cells #[Value.int IntKind.i64 n, Value.int IntKind.u64 (U av), Value.int IntKind.u64 (U ax)] 29)).alloc (Obj.cells #[Value.int IntKind.i64 m, Value.int IntKind.u64 (U cv), Value.int IntKind.u64 (U cx)] 29)).alloc (Obj.cells #[Value.int IntKind.i64 0, Value.int IntKind.u64 0, Value.int IntKind.u64 0] 29)) = W at C ⊢
  obtain ⟨⟨a0, a1, a2, af⟩, ⟨b0, b1, b2, bf⟩, ⟨p0, p1, p2, pf⟩, lo⟩ := id C
  go_wp2_with fail
  refine (va.out _).mono ?_
  rintro e W1 ⟨rfl, hb⟩
  replace C := C.below hb
  clear a0 a1 a2 af b0 b1 b2 bf p0 p1 p2 pf lo hb
  obtain ⟨⟨a0, a1, a2, af⟩, ⟨b0, b1, b2, bf⟩, ⟨p0, p1, p2, pf⟩, lo⟩ := id C
  go_wp2_with fail
  refine (vb.out _).mono ?_
  rintro e W2 ⟨rfl, hb⟩
  replace C := C.below hb
  clear a0 a1 a2 af b0 b1 b2 bf p0 p1 p2 pf lo hb
  obtain ⟨⟨a0, a1, a2, af⟩, ⟨b0, b1, b2, bf⟩, ⟨p0, p1, p2, pf⟩, lo⟩ := id C
  go_wp2_with fail
  refine (vu.out _).mono ?_
  rintro e W3 ⟨rfl, hb⟩
  replace C := C.below hb
  clear a0 a1 a2 af b0 b1 b2 bf p0 p1 p2 pf lo hb
  obtain ⟨⟨a0, a1, a2, af⟩, ⟨b0, b1, b2, bf⟩, ⟨p0, p1, p2, pf⟩, lo⟩ := id C
  go_wp2_with fail
  have ga0 := cell_regrown a0
  have ga1 := cell_regrown a1
  have ga2 := cell_regrown a2
  refine wp_region_rel 21 (by kernel_rfl) (by kernel_rfl) ?_
  simp only [List.take_succ_cons, List.take_zero, List.drop_succ_cons, List.drop_zero]
  (refine rel_fix0 (fun K hK => ?_); go_simp; refine hK _ ?_; clear hK K)
  (refine rel_fix0 (fun K hK => ?_); go_simp; refine hK _ ?_; clear hK K)
  (refine rel_fix0 (fun K hK => ?_); go_simp; refine hK _ ?_; clear hK K)
  (refine rel_fix0 (fun K hK => ?_); go_simp; refine hK _ ?_; clear hK K)
  (refine rel_fix0 (fun K hK => ?_); go_simp; refine hK _ ?_; clear hK K)
  (refine rel_fix0 (fun K hK => ?_); go_simp; refine hK _ ?_; clear hK K)
  (refine rel_fix0 (fun K hK => ?_); go_simp; apply Exists.intro; refine ⟨fun _ _ => ?_, hK _ ?_⟩; (with_reducible exact ret_same (shr1_s av cv _)); clear hK K)
  (refine rel_fix0 (fun K hK => ?_); go_simp; refine hK _ ?_; clear hK K)
  (refine rel_fix0 (fun K hK => ?_); go_simp; refine hK _ ?_; clear hK K)
  (refine rel_fix0 (fun K hK => ?_); go_simp; apply Exists.intro; refine ⟨fun _ _ => ?_, hK _ ?_⟩; (with_reducible exact ret_same (vm.out _)); clear hK K)
  (refine rel_fix0 (fun K hK => ?_); go_simp; refine hK _ ?_; clear hK K)
  (refine rel_fix0 (fun K hK => ?_); go_simp; refine hK _ ?_; clear hK K)
  (refine rel_fix0 (fun K hK => ?_); go_simp; refine hK _ ?_; clear hK K)
  (refine rel_fix0 (fun K hK => ?_); go_simp; refine hK _ ?_; clear hK K)
  (refine rel_fix0 (fun K hK => ?_); go_simp; refine hK _ ?_; clear hK K)
  (refine rel_fix0 (fun K hK => ?_); go_simp; apply Exists.intro; refine ⟨fun _ _ => ?_, hK _ ?_⟩; (with_reducible exact ret_same (shr1_s ax cv _)); clear hK K)
  (refine rel_fix0 (fun K hK => ?_); go_simp; refine hK _ ?_; clear hK K)
  (refine rel_fix0 (fun K hK => ?_); go_simp; refine hK _ ?_; clear hK K)
  (refine rel_fix0 (fun K hK => ?_); go_simp; apply Exists.intro; refine ⟨fun _ _ => ?_, hK _ ?_⟩; (with_reducible exact ret_same (vm.out _)); clear hK K)
  (refine rel_fix0 (fun K hK => ?_); go_simp; refine hK _ ?_; clear hK K)
  (refine rel_fix0 (fun K hK => ?_); go_simp; refine hK _ ?_; clear hK K)
  refine rel_nil ?_
  intro d os
  simp only [relAll]
  clear ga0 ga1 ga2
  clear a0 a1 a2 af b0 b1 b2 bf p0 p1 p2 pf lo
  replace C := C.below (below_regrown _ d os)
  generalize grow (redrawn _ d) os = W9 at C ⊢
  obtain ⟨⟨a0, a1, a2, af⟩, ⟨b0, b1, b2, bf⟩, ⟨p0, p1, p2, pf⟩, lo⟩ := id C
  go_wp2_with fail
  replace C := C.put n (U (av >>> cv.toNat &&& msk n)) (U (ax >>> cv.toNat &&& msk n))
  clear a0 a1 a2 af b0 b1 b2 bf p0 p1 p2 pf lo
  obtain ⟨⟨a0, a1, a2, af⟩, ⟨b0, b1, b2, bf⟩, ⟨p0, p1, p2, pf⟩, lo⟩ := C
  exact bodyPost_ret (v := .agg #[.int .i64 n, .int .u64 (U (av >>> cv.toNat &&& msk n)), .int .u64 (U (ax >>> cv.toNat &&& msk n))]) (by simp [results, Tryz.results55, go_sem, p0, p1, p2]) rfl ⟨rfl, lo⟩
set_option maxRecDepth 100000 in
set_option maxHeartbeats 4000000 in
theorem shift_Sar (n m : Nat) (a c : Vx) (p : Nat) (w : World) (ha : a.ok n) (hc : c.ok m) (hx : (c.x == 0#64) = true) (hp : w.cell? ⟨p, 0, none⟩ = some (.int .i64 n)) : Calls Tryz.prog 55 #[.agg #[.int .i64 n, .int .u64 (U a.v), .int .u64 (U a.x)], .agg #[.int .i64 m, .int .u64 (U c.v), .int .u64 (U c.x)], .func (.func 58) #[] #[.pointer (some ⟨p, 0, none⟩)]] w fun e w' => e = .returned (.agg #[.int .i64 n, .int .u64 (U ((ext n a.v).sshiftRight c.v.toNat &&& msk n)), .int .u64 (U ((ext n a.x).sshiftRight c.v.toNat &&& msk n))]) ∧ Below w.heap.size w w' := by
  obtain ⟨av, ax⟩ := a
  obtain ⟨cv, cx⟩ := c
  have va := Lib.hid fun w => valid_ok n av ax w ha
  have vb := Lib.hid fun w => valid_ok m cv cx w hc
  have vu := Lib.hid fun w => uint_yes m ⟨cv, cx⟩ w hc hx
  have vm := Lib.hid fun w => mask_any n ha.hi w
  have hn := ha.hi
  have hlo := ha.lo
  clear ha hc hx
  show Calls Tryz.prog 55 #[.agg #[.int .i64 n, .int .u64 (U av), .int .u64 (U ax)], .agg #[.int .i64 m, .int .u64 (U cv), .int .u64 (U cx)], .func (.func 58) #[] #[.pointer (some ⟨p, 0, none⟩)]] w fun e w' => e = .returned (.agg #[.int .i64 n, .int .u64 (U ((ext n av).sshiftRight cv.toNat &&& msk n)), .int .u64 (U ((ext n ax).sshiftRight cv.toNat &&& msk n))]) ∧ Below w.heap.size w w'
  go_enter Tryz.func55, Tryz.ntmps55
  go_wp2_with fail
  have C := tb_new (w := w) ⟨n, av, ax⟩ ⟨m, cv, cx⟩
  generalize (((w.alloc (Obj.cells #[Value.int IntKind.i64 n, Value.int IntKind.u64 (U av), Value.int IntKind.u64 (U ax)] 29)).alloc (Obj.cells #[Value.int IntKind.i64 m, Value.int IntKind.u64 (U cv), Value.int IntKind.u64 (U cx)] 29)).alloc (Obj.cells #[Value.int IntKind.i64 0, Value.int IntKind.u64 0, Value.int IntKind.u64 0] 29)) = W at C ⊢
  obtain ⟨⟨a0, a1, a2, af⟩, ⟨b0, b1, b2, bf⟩, ⟨p0, p1, p2, pf⟩, lo⟩ := id C
  go_wp2_with fail
  refine (va.out _).mono ?_
  rintro e W1 ⟨rfl, hb⟩
  replace C := C.below hb
  clear a0 a1 a2 af b0 b1 b2 bf p0 p1 p2 pf lo hb
  obtain ⟨⟨a0, a1, a2, af⟩, ⟨b0, b1, b2, bf⟩, ⟨p0, p1, p2, pf⟩, lo⟩ := id C
  go_wp2_with fail
  refine (vb.out _).mono ?_
  rintro e W2 ⟨rfl, hb⟩
  replace C := C.below hb
  clear a0 a1 a2 af b0 b1 b2 bf p0 p1 p2 pf lo hb
  obtain ⟨⟨a0, a1, a2, af⟩, ⟨b0, b1, b2, bf⟩, ⟨p0, p1, p2, pf⟩, lo⟩ := id C
  go_wp2_with fail
  refine (vu.out _).mono ?_
  rintro e W3 ⟨rfl, hb⟩
  replace C := C.below hb
  clear a0 a1 a2 af b0 b1 b2 bf p0 p1 p2 pf lo hb
  obtain ⟨⟨a0, a1, a2, af⟩, ⟨b0, b1, b2, bf⟩, ⟨p0, p1, p2, pf⟩, lo⟩ := id C
  go_wp2_with fail
  have ga0 := cell_regrown a0
  have ga1 := cell_regrown a1
  have ga2 := cell_regrown a2
  have hp9 := (lo.cell (p := ⟨p, 0, none⟩) (World.block_lt_of_cell? w _ hp)).trans hp
  refine wp_region_rel 21 (by kernel_rfl) (by kernel_rfl) ?_
  simp only [List.take_succ_cons, List.take_zero, List.drop_succ_cons, List.drop_zero]
  (refine rel_fix0 (fun K hK => ?_); go_simp; refine hK _ ?_; clear hK K)
  (refine rel_fix0 (fun K hK => ?_); go_simp; refine hK _ ?_; clear hK K)
  (refine rel_fix0 (fun K hK => ?_); go_simp; refine hK _ ?_; clear hK K)
  (refine rel_fix0 (fun K hK => ?_); go_simp; refine hK _ ?_; clear hK K)
  (refine rel_fix0 (fun K hK => ?_); go_simp; refine hK _ ?_; clear hK K)
  (refine rel_fix0 (fun K hK => ?_); go_simp; refine hK _ ?_; clear hK K)
  (refine rel_fix0 (fun K hK => ?_); go_simp; apply Exists.intro; refine ⟨fun _ _ => ?_, hK _ ?_⟩; (with_reducible exact ret_same (sar1_s n hlo hn av cv p _ (cell_regrown hp9 _ _))); clear hK K)
  (refine rel_fix0 (fun K hK => ?_); go_simp; refine hK _ ?_; clear hK K)
  (refine rel_fix0 (fun K hK => ?_); go_simp; refine hK _ ?_; clear hK K)
  (refine rel_fix0 (fun K hK => ?_); go_simp; apply Exists.intro; refine ⟨fun _ _ => ?_, hK _ ?_⟩; (with_reducible exact ret_same (vm.out _)); clear hK K)
  (refine rel_fix0 (fun K hK => ?_); go_simp; refine hK _ ?_; clear hK K)
  (refine rel_fix0 (fun K hK => ?_); go_simp; refine hK _ ?_; clear hK K)
  (refine rel_fix0 (fun K hK => ?_); go_simp; refine hK _ ?_; clear hK K)
  (refine rel_fix0 (fun K hK => ?_); go_simp; refine hK _ ?_; clear hK K)
  (refine rel_fix0 (fun K hK => ?_); go_simp; refine hK _ ?_; clear hK K)
  (refine rel_fix0 (fun K hK => ?_); go_simp; apply Exists.intro; refine ⟨fun _ _ => ?_, hK _ ?_⟩; (with_reducible exact ret_same (sar1_s n hlo hn ax cv p _ (cell_regrown hp9 _ _))); clear hK K)
  (refine rel_fix0 (fun K hK => ?_); go_simp; refine hK _ ?_; clear hK K)
  (refine rel_fix0 (fun K hK => ?_); go_simp; refine hK _ ?_; clear hK K)
  (refine rel_fix0 (fun K hK => ?_); go_simp; apply Exists.intro; refine ⟨fun _ _ => ?_, hK _ ?_⟩; (with_reducible exact ret_same (vm.out _)); clear hK K)
  (refine rel_fix0 (fun K hK => ?_); go_simp; refine hK _ ?_; clear hK K)
  (refine rel_fix0 (fun K hK => ?_); go_simp; refine hK _ ?_; clear hK K)
  refine rel_nil ?_
  intro d os
  simp only [relAll]
  clear ga0 ga1 ga2
  clear a0 a1 a2 af b0 b1 b2 bf p0 p1 p2 pf lo
  replace C := C.below (below_regrown _ d os)
  generalize grow (redrawn _ d) os = W9 at C ⊢
  obtain ⟨⟨a0, a1, a2, af⟩, ⟨b0, b1, b2, bf⟩, ⟨p0, p1, p2, pf⟩, lo⟩ := id C
  go_wp2_with fail
  replace C := C.put n (U ((ext n av).sshiftRight cv.toNat &&& msk n)) (U ((ext n ax).sshiftRight cv.toNat &&& msk n))
  clear a0 a1 a2 af b0 b1 b2 bf p0 p1 p2 pf lo
  obtain ⟨⟨a0, a1, a2, af⟩, ⟨b0, b1, b2, bf⟩, ⟨p0, p1, p2, pf⟩, lo⟩ := C
  exact bodyPost_ret (v := .agg #[.int .i64 n, .int .u64 (U ((ext n av).sshiftRight cv.toNat &&& msk n)), .int .u64 (U ((ext n ax).sshiftRight cv.toNat &&& msk n))]) (by simp [results, Tryz.results55, go_sem, p0, p1, p2]) rfl ⟨rfl, lo⟩
/-- what a shift makes of any vectors -/
def shR (op : Nat → Vx → Nat → Vx) (a c : Rb) : Rb :=
  if a.okB && c.okB then (if c.x = 0#64 then ⟨a.W, (op a.W.toNat ⟨a.v, a.x⟩ c.v.toNat).v, (op a.W.toNat ⟨a.v, a.x⟩ c.v.toNat).x⟩ else ⟨a.W, (fl a.W.toNat 3).v, (fl a.W.toNat 3).x⟩) else ⟨0, 0#64, 0#64⟩
set_option maxRecDepth 100000 in
set_option maxHeartbeats 1000000 in
theorem shl_ia (a c : Rb) (w : World) (h : a.okB = false) : Calls Tryz.prog 29 #[.agg #[.int .i64 a.W, .int .u64 (U a.v), .int .u64 (U a.x)], .agg #[.int .i64 c.W, .int .u64 (U c.v), .int .u64 (U c.x)]] w fun e w' => e = .returned (.agg #[.int .i64 0, .int .u64 0, .int .u64 0]) ∧ Below w.heap.size w w' := by
  obtain ⟨aW, av, ax⟩ := a
  obtain ⟨bW, bv, bx⟩ := c
  have va := Lib.hid fun fv w => shift_ia ⟨aW, av, ax⟩ ⟨bW, bv, bx⟩ fv w h
  clear h
  show Calls Tryz.prog 29 #[.agg #[.int .i64 aW, .int .u64 (U av), .int .u64 (U ax)], .agg #[.int .i64 bW, .int .u64 (U bv), .int .u64 (U bx)]] w _
  go_enter Tryz.func29, Tryz.ntmps29
  go_wp2_with fail
  have C := tb_new (w := w) ⟨aW, av, ax⟩ ⟨bW, bv, bx⟩
  generalize (((w.alloc (Obj.cells #[Value.int IntKind.i64 aW, Value.int IntKind.u64 (U av), Value.int IntKind.u64 (U ax)] 29)).alloc (Obj.cells #[Value.int IntKind.i64 bW, Value.int IntKind.u64 (U bv), Value.int IntKind.u64 (U bx)] 29)).alloc (Obj.cells #[Value.int IntKind.i64 0, Value.int IntKind.u64 0, Value.int IntKind.u64 0] 29)) = W at C ⊢
  obtain ⟨⟨a0, a1, a2, af⟩, ⟨b0, b1, b2, bf⟩, ⟨p0, p1, p2, pf⟩, lo⟩ := id C
  go_wp2_with fail
  refine (va.out _ _).mono ?_
  rintro e W1 ⟨rfl, hb⟩
  replace C := C.below hb
  clear a0 a1 a2 af b0 b1 b2 bf p0 p1 p2 pf lo hb
  obtain ⟨⟨a0, a1, a2, af⟩, ⟨b0, b1, b2, bf⟩, ⟨p0, p1, p2, pf⟩, lo⟩ := id C
  go_wp2_with fail
  replace C := C.put 0 0 0
  clear a0 a1 a2 af b0 b1 b2 bf p0 p1 p2 pf lo
  obtain ⟨⟨a0, a1, a2, af⟩, ⟨b0, b1, b2, bf⟩, ⟨p0, p1, p2, pf⟩, lo⟩ := C
  exact bodyPost_ret (v := .agg #[.int .i64 0, .int .u64 0, .int .u64 0]) (by simp [results, Tryz.results29, go_sem, p0, p1, p2]) rfl ⟨rfl, lo⟩
set_option maxRecDepth 100000 in
set_option maxHeartbeats 1000000 in
theorem shl_ib (n : Nat) (a : Vx) (c : Rb) (w : World) (ha : a.ok n) (h : c.okB = false) : Calls Tryz.prog 29 #[.agg #[.int .i64 n, .int .u64 (U a.v), .int .u64 (U a.x)], .agg #[.int .i64 c.W, .int .u64 (U c.v), .int .u64 (U c.x)]] w fun e w' => e = .returned (.agg #[.int .i64 0, .int .u64 0, .int .u64 0]) ∧ Below w.heap.size w w' := by
  obtain ⟨av, ax⟩ := a
  obtain ⟨bW, bv, bx⟩ := c
  have va := Lib.hid fun fv w => shift_ib n ⟨av, ax⟩ ⟨bW, bv, bx⟩ fv w ha h
  clear ha h
  show Calls Tryz.prog 29 #[.agg #[.int .i64 n, .int .u64 (U av), .int .u64 (U ax)], .agg #[.int .i64 bW, .int .u64 (U bv), .int .u64 (U bx)]] w _
  go_enter Tryz.func29, Tryz.ntmps29
  go_wp2_with fail
  have C := tb_new (w := w) ⟨n, av, ax⟩ ⟨bW, bv, bx⟩
  generalize (((w.alloc (Obj.cells #[Value.int IntKind.i64 n, Value.int IntKind.u64 (U av), Value.int IntKind.u64 (U ax)] 29)).alloc (Obj.cells #[Value.int IntKind.i64 bW, Value.int IntKind.u64 (U bv), Value.int IntKind.u64 (U bx)] 29)).alloc (Obj.cells #[Value.int IntKind.i64 0, Value.int IntKind.u64 0, Value.int IntKind.u64 0] 29)) = W at C ⊢
  obtain ⟨⟨a0, a1, a2, af⟩, ⟨b0, b1, b2, bf⟩, ⟨p0, p1, p2, pf⟩, lo⟩ := id C
  go_wp2_with fail
  refine (va.out _ _).mono ?_
  rintro e W1 ⟨rfl, hb⟩
  replace C := C.below hb
  clear a0 a1 a2 af b0 b1 b2 bf p0 p1 p2 pf lo hb
  obtain ⟨⟨a0, a1, a2, af⟩, ⟨b0, b1, b2, bf⟩, ⟨p0, p1, p2, pf⟩, lo⟩ := id C
  go_wp2_with fail
  replace C := C.put 0 0 0
  clear a0 a1 a2 af b0 b1 b2 bf p0 p1 p2 pf lo
  obtain ⟨⟨a0, a1, a2, af⟩, ⟨b0, b1, b2, bf⟩, ⟨p0, p1, p2, pf⟩, lo⟩ := C
  exact bodyPost_ret (v := .agg #[.int .i64 0, .int .u64 0, .int .u64 0]) (by simp [results, Tryz.results29, go_sem, p0, p1, p2]) rfl ⟨rfl, lo⟩
set_option maxRecDepth 100000 in
set_option maxHeartbeats 1000000 in
theorem shl_xx (n m : Nat) (a c : Vx) (w : World) (ha : a.ok n) (hc : c.ok m) (hx : (c.x == 0#64) = false) : Calls Tryz.prog 29 #[.agg #[.int .i64 n, .int .u64 (U a.v), .int .u64 (U a.x)], .agg #[.int .i64 m, .int .u64 (U c.v), .int .u64 (U c.x)]] w fun e w' => e = .returned (.agg #[.int .i64 n, .int .u64 (U (fl n 3).v), .int .u64 (U (fl n 3).x)]) ∧ Below w.heap.size w w' := by
  obtain ⟨av, ax⟩ := a
  obtain ⟨cv, cx⟩ := c
  have va := Lib.hid fun fv w => shift_xx n m ⟨av, ax⟩ ⟨cv, cx⟩ fv w ha hc hx
  clear ha hc hx
  generalize fl n 3 = P at va ⊢
  show Calls Tryz.prog 29 #[.agg #[.int .i64 n, .int .u64 (U av), .int .u64 (U ax)], .agg #[.int .i64 m, .int .u64 (U cv), .int .u64 (U cx)]] w _
  go_enter Tryz.func29, Tryz.ntmps29
  go_wp2_with fail
  have C := tb_new (w := w) ⟨n, av, ax⟩ ⟨m, cv, cx⟩
  generalize (((w.alloc (Obj.cells #[Value.int IntKind.i64 n, Value.int IntKind.u64 (U av), Value.int IntKind.u64 (U ax)] 29)).alloc (Obj.cells #[Value.int IntKind.i64 m, Value.int IntKind.u64 (U cv), Value.int IntKind.u64 (U cx)] 29)).alloc (Obj.cells #[Value.int IntKind.i64 0, Value.int IntKind.u64 0, Value.int IntKind.u64 0] 29)) = W at C ⊢
  obtain ⟨⟨a0, a1, a2, af⟩, ⟨b0, b1, b2, bf⟩, ⟨p0, p1, p2, pf⟩, lo⟩ := id C
  go_wp2_with fail
  refine (va.out _ _).mono ?_
  rintro e W1 ⟨rfl, hb⟩
  replace C := C.below hb
  clear a0 a1 a2 af b0 b1 b2 bf p0 p1 p2 pf lo hb
  obtain ⟨⟨a0, a1, a2, af⟩, ⟨b0, b1, b2, bf⟩, ⟨p0, p1, p2, pf⟩, lo⟩ := id C
  go_wp2_with fail
  replace C := C.put n (U P.v) (U P.x)
  clear a0 a1 a2 af b0 b1 b2 bf p0 p1 p2 pf lo
  obtain ⟨⟨a0, a1, a2, af⟩, ⟨b0, b1, b2, bf⟩, ⟨p0, p1, p2, pf⟩, lo⟩ := C
  exact bodyPost_ret (v := .agg #[.int .i64 n, .int .u64 (U P.v), .int .u64 (U P.x)]) (by simp [results, Tryz.results29, go_sem, p0, p1, p2]) rfl ⟨rfl, lo⟩
set_option maxRecDepth 100000 in
set_option maxHeartbeats 1000000 in
theorem shl_kk (n m : Nat) (a c : Vx) (w : World) (ha : a.ok n) (hc : c.ok m) (hx : (c.x == 0#64) = true) : Calls Tryz.prog 29 #[.agg #[.int .i64 n, .int .u64 (U a.v), .int .u64 (U a.x)], .agg #[.int .i64 m, .int .u64 (U c.v), .int .u64 (U c.x)]] w fun e w' => e = .returned (.agg #[.int .i64 n, .int .u64 (U (vshl n a c.v.toNat).v), .int .u64 (U (vshl n a c.v.toNat).x)]) ∧ Below w.heap.size w w' := by
  obtain ⟨av, ax⟩ := a
  obtain ⟨cv, cx⟩ := c
  have va := Lib.hid fun w => shift_Shl n m ⟨av, ax⟩ ⟨cv, cx⟩ w ha hc hx
  clear ha hc hx
  show Calls Tryz.prog 29 #[.agg #[.int .i64 n, .int .u64 (U av), .int .u64 (U ax)], .agg #[.int .i64 m, .int .u64 (U cv), .int .u64 (U cx)]] w fun e w' => e = .returned (.agg #[.int .i64 n, .int .u64 (U (av <<< cv.toNat &&& msk n)), .int .u64 (U (ax <<< cv.toNat &&& msk n))]) ∧ Below w.heap.size w w'
  go_enter Tryz.func29, Tryz.ntmps29
  go_wp2_with fail
  have C := tb_new (w := w) ⟨n, av, ax⟩ ⟨m, cv, cx⟩
  generalize (((w.alloc (Obj.cells #[Value.int IntKind.i64 n, Value.int IntKind.u64 (U av), Value.int IntKind.u64 (U ax)] 29)).alloc (Obj.cells #[Value.int IntKind.i64 m, Value.int IntKind.u64 (U cv), Value.int IntKind.u64 (U cx)] 29)).alloc (Obj.cells #[Value.int IntKind.i64 0, Value.int IntKind.u64 0, Value.int IntKind.u64 0] 29)) = W at C ⊢
  obtain ⟨⟨a0, a1, a2, af⟩, ⟨b0, b1, b2, bf⟩, ⟨p0, p1, p2, pf⟩, lo⟩ := id C
  go_wp2_with fail
  refine (va.out _).mono ?_
  rintro e W1 ⟨rfl, hb⟩
  replace C := C.below hb
  clear a0 a1 a2 af b0 b1 b2 bf p0 p1 p2 pf lo hb
  obtain ⟨⟨a0, a1, a2, af⟩, ⟨b0, b1, b2, bf⟩, ⟨p0, p1, p2, pf⟩, lo⟩ := id C
  go_wp2_with fail
  replace C := C.put n (U (av <<< cv.toNat &&& msk n)) (U (ax <<< cv.toNat &&& msk n))
  clear a0 a1 a2 af b0 b1 b2 bf p0 p1 p2 pf lo
  obtain ⟨⟨a0, a1, a2, af⟩, ⟨b0, b1, b2, bf⟩, ⟨p0, p1, p2, pf⟩, lo⟩ := C
  exact bodyPost_ret (v := .agg #[.int .i64 n, .int .u64 (U (av <<< cv.toNat &&& msk n)), .int .u64 (U (ax <<< cv.toNat &&& msk n))]) (by simp [results, Tryz.results29, go_sem, p0, p1, p2]) rfl ⟨rfl, lo⟩
theorem shl_any (a c : Rb) (w : World) : Calls Tryz.prog 29 #[.agg #[.int .i64 a.W, .int .u64 (U a.v), .int .u64 (U a.x)], .agg #[.int .i64 c.W, .int .u64 (U c.v), .int .u64 (U c.x)]] w fun e w' => e = .returned (.agg #[.int .i64 (shR vshl a c).W, .int .u64 (U (shR vshl a c).v), .int .u64 (U (shR vshl a c).x)]) ∧ Below w.heap.size w w' := by
  cases ha : a.okB
  · have e : shR vshl a c = ⟨0, 0#64, 0#64⟩ := by unfold shR; rw [ha]; rfl
    rw [e]; exact shl_ia a c w ha
  obtain ⟨n, en, oa⟩ := Rb.ok_of ha
  obtain ⟨aW, av, ax⟩ := a
  obtain rfl : aW = n := en
  cases hc : c.okB
  · have e : shR vshl ⟨n, av, ax⟩ c = ⟨0, 0#64, 0#64⟩ := by unfold shR; rw [hc, Bool.and_false]; rfl
    rw [e]; exact shl_ib n ⟨av, ax⟩ c w oa hc
  obtain ⟨m, em, oc⟩ := Rb.ok_of hc
  obtain ⟨cW, cv, cx⟩ := c
  obtain rfl : cW = m := em
  by_cases hx : cx = 0#64
  · have e : shR vshl ⟨n, av, ax⟩ ⟨m, cv, cx⟩ = ⟨n, (vshl n ⟨av, ax⟩ cv.toNat).v, (vshl n ⟨av, ax⟩ cv.toNat).x⟩ := by unfold shR; rw [ha, hc, Bool.and_self, if_pos rfl]; exact if_pos hx
    rw [e]; exact shl_kk n m ⟨av, ax⟩ ⟨cv, cx⟩ w oa oc (by simpa using hx)
  · have e : shR vshl ⟨n, av, ax⟩ ⟨m, cv, cx⟩ = ⟨n, (fl n 3).v, (fl n 3).x⟩ := by unfold shR; rw [ha, hc, Bool.and_self, if_pos rfl]; exact if_neg hx
    rw [e]; exact shl_xx n m ⟨av, ax⟩ ⟨cv, cx⟩ w oa oc (by simpa using hx)
set_option maxRecDepth 100000 in
set_option maxHeartbeats 1000000 in
theorem shr_ia (a c : Rb) (w : World) (h : a.okB = false) : Calls Tryz.prog 30 #[.agg #[.int .i64 a.W, .int .u64 (U a.v), .int .u64 (U a.x)], .agg #[.int .i64 c.W, .int .u64 (U c.v), .int .u64 (U c.x)]] w fun e w' => e = .returned (.agg #[.int .i64 0, .int .u64 0, .int .u64 0]) ∧ Below w.heap.size w w' := by
  obtain ⟨aW, av, ax⟩ := a
  obtain ⟨bW, bv, bx⟩ := c
  have va := Lib.hid fun fv w => shift_ia ⟨aW, av, ax⟩ ⟨bW, bv, bx⟩ fv w h
  clear h
  show Calls Tryz.prog 30 #[.agg #[.int .i64 aW, .int .u64 (U av), .int .u64 (U ax)], .agg #[.int .i64 bW, .int .u64 (U bv), .int .u64 (U bx)]] w _
  go_enter Tryz.func30, Tryz.ntmps30
  go_wp2_with fail
  have C := tb_new (w := w) ⟨aW, av, ax⟩ ⟨bW, bv, bx⟩
  generalize (((w.alloc (Obj.cells #[Value.int IntKind.i64 aW, Value.int IntKind.u64 (U av), Value.int IntKind.u64 (U ax)] 29)).alloc (Obj.cells #[Value.int IntKind.i64 bW, Value.int IntKind.u64 (U bv), Value.int IntKind.u64 (U bx)] 29)).alloc (Obj.cells #[Value.int IntKind.i64 0, Value.int IntKind.u64 0, Value.int IntKind.u64 0] 29)) = W at C ⊢
  obtain ⟨⟨a0, a1, a2, af⟩, ⟨b0, b1, b2, bf⟩, ⟨p0, p1, p2, pf⟩, lo⟩ := id C
  go_wp2_with fail
  refine (va.out _ _).mono ?_
  rintro e W1 ⟨rfl, hb⟩
  replace C := C.below hb
  clear a0 a1 a2 af b0 b1 b2 bf p0 p1 p2 pf lo hb
  obtain ⟨⟨a0, a1, a2, af⟩, ⟨b0, b1, b2, bf⟩, ⟨p0, p1, p2, pf⟩, lo⟩ := id C
  go_wp2_with fail
  replace C := C.put 0 0 0
  clear a0 a1 a2 af b0 b1 b2 bf p0 p1 p2 pf lo
  obtain ⟨⟨a0, a1, a2, af⟩, ⟨b0, b1, b2, bf⟩, ⟨p0, p1, p2, pf⟩, lo⟩ := C
  exact bodyPost_ret (v := .agg #[.int .i64 0, .int .u64 0, .int .u64 0]) (by simp [results, Tryz.results30, go_sem, p0, p1, p2]) rfl ⟨rfl, lo⟩
set_option maxRecDepth 100000 in
set_option maxHeartbeats 1000000 in
theorem shr_ib (n : Nat) (a : Vx) (c : Rb) (w : World) (ha : a.ok n) (h : c.okB = false) : Calls Tryz.prog 30 #[.agg #[.int .i64 n, .int .u64 (U a.v), .int .u64 (U a.x)], .agg #[.int .i64 c.W, .int .u64 (U c.v), .int .u64 (U c.x)]] w fun e w' => e = .returned (.agg #[.int .i64 0, .int .u64 0, .int .u64 0]) ∧ Below w.heap.size w w' := by
  obtain ⟨av, ax⟩ := a
  obtain ⟨bW, bv, bx⟩ := c
  have va := Lib.hid fun fv w => shift_ib n ⟨av, ax⟩ ⟨bW, bv, bx⟩ fv w ha h
  clear ha h
  show Calls Tryz.prog 30 #[.agg #[.int .i64 n, .int .u64 (U av), .int .u64 (U ax)], .agg #[.int .i64 bW, .int .u64 (U bv), .int .u64 (U bx)]] w _
  go_enter Tryz.func30, Tryz.ntmps30
  go_wp2_with fail
  have C := tb_new (w := w) ⟨n, av, ax⟩ ⟨bW, bv, bx⟩
  generalize (((w.alloc (Obj.cells #[Value.int IntKind.i64 n, Value.int IntKind.u64 (U av), Value.int IntKind.u64 (U ax)] 29)).alloc (Obj.cells #[Value.int IntKind.i64 bW, Value.int IntKind.u64 (U bv), Value.int IntKind.u64 (U bx)] 29)).alloc (Obj.cells #[Value.int IntKind.i64 0, Value.int IntKind.u64 0, Value.int IntKind.u64 0] 29)) = W at C ⊢
  obtain ⟨⟨a0, a1, a2, af⟩, ⟨b0, b1, b2, bf⟩, ⟨p0, p1, p2, pf⟩, lo⟩ := id C
  go_wp2_with fail
  refine (va.out _ _).mono ?_
  rintro e W1 ⟨rfl, hb⟩
  replace C := C.below hb
  clear a0 a1 a2 af b0 b1 b2 bf p0 p1 p2 pf lo hb
  obtain ⟨⟨a0, a1, a2, af⟩, ⟨b0, b1, b2, bf⟩, ⟨p0, p1, p2, pf⟩, lo⟩ := id C
  go_wp2_with fail
  replace C := C.put 0 0 0
  clear a0 a1 a2 af b0 b1 b2 bf p0 p1 p2 pf lo
  obtain ⟨⟨a0, a1, a2, af⟩, ⟨b0, b1, b2, bf⟩, ⟨p0, p1, p2, pf⟩, lo⟩ := C
  exact bodyPost_ret (v := .agg #[.int .i64 0, .int .u64 0, .int .u64 0]) (by simp [results, Tryz.results30, go_sem, p0, p1, p2]) rfl ⟨rfl, lo⟩
set_option maxRecDepth 100000 in
set_option maxHeartbeats 1000000 in
theorem shr_xx (n m : Nat) (a c : Vx) (w : World) (ha : a.ok n) (hc : c.ok m) (hx : (c.x == 0#64) = false) : Calls Tryz.prog 30 #[.agg #[.int .i64 n, .int .u64 (U a.v), .int .u64 (U a.x)], .agg #[.int .i64 m, .int .u64 (U c.v), .int .u64 (U c.x)]] w fun e w' => e = .returned (.agg #[.int .i64 n, .int .u64 (U (fl n 3).v), .int .u64 (U (fl n 3).x)]) ∧ Below w.heap.size w w' := by
  obtain ⟨av, ax⟩ := a
  obtain ⟨cv, cx⟩ := c
  have va := Lib.hid fun fv w => shift_xx n m ⟨av, ax⟩ ⟨cv, cx⟩ fv w ha hc hx
  clear ha hc hx
  generalize fl n 3 = P at va ⊢
  show Calls Tryz.prog 30 #[.agg #[.int .i64 n, .int .u64 (U av), .int .u64 (U ax)], .agg #[.int .i64 m, .int .u64 (U cv), .int .u64 (U cx)]] w _
  go_enter Tryz.func30, Tryz.ntmps30
  go_wp2_with fail
  have C := tb_new (w := w) ⟨n, av, ax⟩ ⟨m, cv, cx⟩
  generalize (((w.alloc (Obj.cells #[Value.int IntKind.i64 n, Value.int IntKind.u64 (U av), Value.int IntKind.u64 (U ax)] 29)).alloc (Obj.cells #[Value.int IntKind.i64 m, Value.int IntKind.u64 (U cv), Value.int IntKind.u64 (U cx)] 29)).alloc (Obj.cells #[Value.int IntKind.i64 0, Value.int IntKind.u64 0, Value.int IntKind.u64 0] 29)) = W at C ⊢
  obtain ⟨⟨a0, a1, a2, af⟩, ⟨b0, b1, b2, bf⟩, ⟨p0, p1, p2, pf⟩, lo⟩ := id C
  go_wp2_with fail
  refine (va.out _ _).mono ?_
  rintro e W1 ⟨rfl, hb⟩
  replace C := C.below hb
  clear a0 a1 a2 af b0 b1 b2 bf p0 p1 p2 pf lo hb
  obtain ⟨⟨a0, a1, a2, af⟩, ⟨b0, b1, b2, bf⟩, ⟨p0, p1, p2, pf⟩, lo⟩ := id C
  go_wp2_with fail
  replace C := C.put n (U P.v) (U P.x)
  clear a0 a1 a2 af b0 b1 b2 bf p0 p1 p2 pf lo
  obtain ⟨⟨a0, a1, a2, af⟩, ⟨b0, b1, b2, bf⟩, ⟨p0, p1, p2, pf⟩, lo⟩ := C
  exact bodyPost_ret (v := .agg #[.int .i64 n, .int .u64 (U P.v), .int .u64 (U P.x)]) (by simp [results, Tryz.results30, go_sem, p0, p1, p2]) rfl ⟨rfl, lo⟩
set_option maxRecDepth 100000 in
set_option maxHeartbeats 1000000 in
theorem shr_kk (n m : Nat) (a c : Vx) (w : World) (ha : a.ok n) (hc : c.ok m) (hx : (c.x == 0#64) = true) : Calls Tryz.prog 30 #[.agg #[.int .i64 n, .int .u64 (U a.v), .int .u64 (U a.x)], .agg #[.int .i64 m, .int .u64 (U c.v), .int .u64 (U c.x)]] w fun e w' => e = .returned (.agg #[.int .i64 n, .int .u64 (U (vshr n a c.v.toNat).v), .int .u64 (U (vshr n a c.v.toNat).x)]) ∧ Below w.heap.size w w' := by
  obtain ⟨av, ax⟩ := a
  obtain ⟨cv, cx⟩ := c
  have va := Lib.hid fun w => shift_Shr n m ⟨av, ax⟩ ⟨cv, cx⟩ w ha hc hx
  clear ha hc hx
  show Calls Tryz.prog 30 #[.agg #[.int .i64 n, .int .u64 (U av), .int .u64 (U ax)], .agg #[.int .i64 m, .int .u64 (U cv), .int .u64 (U cx)]] w fun e w' => e = .returned (.agg #[.int .i64 n, .int .u64 (U (av >>> cv.toNat &&& msk n)), .int .u64 (U (ax >>> cv.toNat &&& msk n))]) ∧ Below w.heap.size w w'
  go_enter Tryz.func30, Tryz.ntmps30
  go_wp2_with fail
  have C := tb_new (w := w) ⟨n, av, ax⟩ ⟨m, cv, cx⟩
  generalize (((w.alloc (Obj.cells #[Value.int IntKind.i64 n, Value.int IntKind.u64 (U av), Value.int IntKind.u64 (U ax)] 29)).alloc (Obj.cells #[Value.int IntKind.i64 m, Value.int IntKind.u64 (U cv), Value.int IntKind.u64 (U cx)] 29)).alloc (Obj.cells #[Value.int IntKind.i64 0, Value.int IntKind.u64 0, Value.int IntKind.u64 0] 29)) = W at C ⊢
  obtain ⟨⟨a0, a1, a2, af⟩, ⟨b0, b1, b2, bf⟩, ⟨p0, p1, p2, pf⟩, lo⟩ := id C
  go_wp2_with fail
  refine (va.out _).mono ?_
  rintro e W1 ⟨rfl, hb⟩
  replace C := C.below hb
  clear a0 a1 a2 af b0 b1 b2 bf p0 p1 p2 pf lo hb
  obtain ⟨⟨a0, a1, a2, af⟩, ⟨b0, b1, b2, bf⟩, ⟨p0, p1, p2, pf⟩, lo⟩ := id C
  go_wp2_with fail
  replace C := C.put n (U (av >>> cv.toNat &&& msk n)) (U (ax >>> cv.toNat &&& msk n))
  clear a0 a1 a2 af b0 b1 b2 bf p0 p1 p2 pf lo
  obtain ⟨⟨a0, a1, a2, af⟩, ⟨b0, b1, b2, bf⟩, ⟨p0, p1, p2, pf⟩, lo⟩ := C
  exact bodyPost_ret (v := .agg #[.int .i64 n, .int .u64 (U (av >>> cv.toNat &&& msk n)), .int .u64 (U (ax >>> cv.toNat &&& msk n))]) (by simp [results, Tryz.results30, go_sem, p0, p1, p2]) rfl ⟨rfl, lo⟩
theorem shr_any (a c : Rb) (w : World) : Calls Tryz.prog 30 #[.agg #[.int .i64 a.W, .int .u64 (U a.v), .int .u64 (U a.x)], .agg #[.int .i64 c.W, .int .u64 (U c.v), .int .u64 (U c.x)]] w fun e w' => e = .returned (.agg #[.int .i64 (shR vshr a c).W, .int .u64 (U (shR vshr a c).v), .int .u64 (U (shR vshr a c).x)]) ∧ Below w.heap.size w w' := by
  cases ha : a.okB
  · have e : shR vshr a c = ⟨0, 0#64, 0#64⟩ := by unfold shR; rw [ha]; rfl
    rw [e]; exact shr_ia a c w ha
  obtain ⟨n, en, oa⟩ := Rb.ok_of ha
  obtain ⟨aW, av, ax⟩ := a
  obtain rfl : aW = n := en
  cases hc : c.okB
  · have e : shR vshr ⟨n, av, ax⟩ c = ⟨0, 0#64, 0#64⟩ := by unfold shR; rw [hc, Bool.and_false]; rfl
    rw [e]; exact shr_ib n ⟨av, ax⟩ c w oa hc
  obtain ⟨m, em, oc⟩ := Rb.ok_of hc
  obtain ⟨cW, cv, cx⟩ := c
  obtain rfl : cW = m := em
  by_cases hx : cx = 0#64
  · have e : shR vshr ⟨n, av, ax⟩ ⟨m, cv, cx⟩ = ⟨n, (vshr n ⟨av, ax⟩ cv.toNat).v, (vshr n ⟨av, ax⟩ cv.toNat).x⟩ := by unfold shR; rw [ha, hc, Bool.and_self, if_pos rfl]; exact if_pos hx
    rw [e]; exact shr_kk n m ⟨av, ax⟩ ⟨cv, cx⟩ w oa oc (by simpa using hx)
  · have e : shR vshr ⟨n, av, ax⟩ ⟨m, cv, cx⟩ = ⟨n, (fl n 3).v, (fl n 3).x⟩ := by unfold shR; rw [ha, hc, Bool.and_self, if_pos rfl]; exact if_neg hx
    rw [e]; exact shr_xx n m ⟨av, ax⟩ ⟨cv, cx⟩ w oa oc (by simpa using hx)
set_option maxRecDepth 100000 in
set_option maxHeartbeats 1000000 in
theorem sar_ia (a c : Rb) (w : World) (h : a.okB = false) : Calls Tryz.prog 31 #[.agg #[.int .i64 a.W, .int .u64 (U a.v), .int .u64 (U a.x)], .agg #[.int .i64 c.W, .int .u64 (U c.v), .int .u64 (U c.x)]] w fun e w' => e = .returned (.agg #[.int .i64 0, .int .u64 0, .int .u64 0]) ∧ Below w.heap.size w w' := by
  obtain ⟨aW, av, ax⟩ := a
  obtain ⟨bW, bv, bx⟩ := c
  have va := Lib.hid fun fv w => shift_ia ⟨aW, av, ax⟩ ⟨bW, bv, bx⟩ fv w h
  clear h
  show Calls Tryz.prog 31 #[.agg #[.int .i64 aW, .int .u64 (U av), .int .u64 (U ax)], .agg #[.int .i64 bW, .int .u64 (U bv), .int .u64 (U bx)]] w _
  go_enter Tryz.func31, Tryz.ntmps31
  go_wp2_with fail
  have C := tb_new (w := w) ⟨aW, av, ax⟩ ⟨bW, bv, bx⟩
  generalize (((w.alloc (Obj.cells #[Value.int IntKind.i64 aW, Value.int IntKind.u64 (U av), Value.int IntKind.u64 (U ax)] 29)).alloc (Obj.cells #[Value.int IntKind.i64 bW, Value.int IntKind.u64 (U bv), Value.int IntKind.u64 (U bx)] 29)).alloc (Obj.cells #[Value.int IntKind.i64 0, Value.int IntKind.u64 0, Value.int IntKind.u64 0] 29)) = W at C ⊢
  obtain ⟨⟨a0, a1, a2, af⟩, ⟨b0, b1, b2, bf⟩, ⟨p0, p1, p2, pf⟩, lo⟩ := id C
  go_wp2_with fail
  refine (va.out _ _).mono ?_
  rintro e W1 ⟨rfl, hb⟩
  replace C := C.below hb
  clear a0 a1 a2 af b0 b1 b2 bf p0 p1 p2 pf lo hb
  obtain ⟨⟨a0, a1, a2, af⟩, ⟨b0, b1, b2, bf⟩, ⟨p0, p1, p2, pf⟩, lo⟩ := id C
  go_wp2_with fail
  replace C := C.put 0 0 0
  clear a0 a1 a2 af b0 b1 b2 bf p0 p1 p2 pf lo
  obtain ⟨⟨a0, a1, a2, af⟩, ⟨b0, b1, b2, bf⟩, ⟨p0, p1, p2, pf⟩, lo⟩ := C
  exact bodyPost_ret (v := .agg #[.int .i64 0, .int .u64 0, .int .u64 0]) (by simp [results, Tryz.results31, go_sem, p0, p1, p2]) rfl ⟨rfl, lo⟩
set_option maxRecDepth 100000 in
set_option maxHeartbeats 1000000 in
theorem sar_ib (n : Nat) (a : Vx) (c : Rb) (w : World) (ha : a.ok n) (h : c.okB = false) : Calls Tryz.prog 31 #[.agg #[.int .i64 n, .int .u64 (U a.v), .int .u64 (U a.x)], .agg #[.int .i64 c.W, .int .u64 (U c.v), .int .u64 (U c.x)]] w fun e w' => e = .returned (.agg #[.int .i64 0, .int .u64 0, .int .u64 0]) ∧ Below w.heap.size w w' := by
  obtain ⟨av, ax⟩ := a
  obtain ⟨bW, bv, bx⟩ := c
  have va := Lib.hid fun fv w => shift_ib n ⟨av, ax⟩ ⟨bW, bv, bx⟩ fv w ha h
  clear ha h
  show Calls Tryz.prog 31 #[.agg #[.int .i64 n, .int .u64 (U av), .int .u64 (U ax)], .agg #[.int .i64 bW, .int .u64 (U bv), .int .u64 (U bx)]] w _
  go_enter Tryz.func31, Tryz.ntmps31
  go_wp2_with fail
  have C := tb_new (w := w) ⟨n, av, ax⟩ ⟨bW, bv, bx⟩
  generalize (((w.alloc (Obj.cells #[Value.int IntKind.i64 n, Value.int IntKind.u64 (U av), Value.int IntKind.u64 (U ax)] 29)).alloc (Obj.cells #[Value.int IntKind.i64 bW, Value.int IntKind.u64 (U bv), Value.int IntKind.u64 (U bx)] 29)).alloc (Obj.cells #[Value.int IntKind.i64 0, Value.int IntKind.u64 0, Value.int IntKind.u64 0] 29)) = W at C ⊢
  obtain ⟨⟨a0, a1, a2, af⟩, ⟨b0, b1, b2, bf⟩, ⟨p0, p1, p2, pf⟩, lo⟩ := id C
  go_wp2_with fail
  refine (va.out _ _).mono ?_
  rintro e W1 ⟨rfl, hb⟩
  replace C := C.below hb
  clear a0 a1 a2 af b0 b1 b2 bf p0 p1 p2 pf lo hb
  obtain ⟨⟨a0, a1, a2, af⟩, ⟨b0, b1, b2, bf⟩, ⟨p0, p1, p2, pf⟩, lo⟩ := id C
  go_wp2_with fail
  replace C := C.put 0 0 0
  clear a0 a1 a2 af b0 b1 b2 bf p0 p1 p2 pf lo
  obtain ⟨⟨a0, a1, a2, af⟩, ⟨b0, b1, b2, bf⟩, ⟨p0, p1, p2, pf⟩, lo⟩ := C
  exact bodyPost_ret (v := .agg #[.int .i64 0, .int .u64 0, .int .u64 0]) (by simp [results, Tryz.results31, go_sem, p0, p1, p2]) rfl ⟨rfl, lo⟩
set_option maxRecDepth 100000 in
set_option maxHeartbeats 1000000 in
theorem sar_xx (n m : Nat) (a c : Vx) (w : World) (ha : a.ok n) (hc : c.ok m) (hx : (c.x == 0#64) = false) : Calls Tryz.prog 31 #[.agg #[.int .i64 n, .int .u64 (U a.v), .int .u64 (U a.x)], .agg #[.int .i64 m, .int .u64 (U c.v), .int .u64 (U c.x)]] w fun e w' => e = .returned (.agg #[.int .i64 n, .int .u64 (U (fl n 3).v), .int .u64 (U (fl n 3).x)]) ∧ Below w.heap.size w w' := by
  obtain ⟨av, ax⟩ := a
  obtain ⟨cv, cx⟩ := c
  have va := Lib.hid fun fv w => shift_xx n m ⟨av, ax⟩ ⟨cv, cx⟩ fv w ha hc hx
  clear ha hc hx
  generalize fl n 3 = P at va ⊢
  show Calls Tryz.prog 31 #[.agg #[.int .i64 n, .int .u64 (U av), .int .u64 (U ax)], .agg #[.int .i64 m, .int .u64 (U cv), .int .u64 (U cx)]] w _
  go_enter Tryz.func31, Tryz.ntmps31
  go_wp2_with fail
  have C := tb_new (w := w) ⟨n, av, ax⟩ ⟨m, cv, cx⟩
  generalize (((w.alloc (Obj.cells #[Value.int IntKind.i64 n, Value.int IntKind.u64 (U av), Value.int IntKind.u64 (U ax)] 29)).alloc (Obj.cells #[Value.int IntKind.i64 m, Value.int IntKind.u64 (U cv), Value.int IntKind.u64 (U cx)] 29)).alloc (Obj.cells #[Value.int IntKind.i64 0, Value.int IntKind.u64 0, Value.int IntKind.u64 0] 29)) = W at C ⊢
  obtain ⟨⟨a0, a1, a2, af⟩, ⟨b0, b1, b2, bf⟩, ⟨p0, p1, p2, pf⟩, lo⟩ := id C
  go_wp2_with fail
  refine (va.out _ _).mono ?_
  rintro e W1 ⟨rfl, hb⟩
  replace C := C.below hb
  clear a0 a1 a2 af b0 b1 b2 bf p0 p1 p2 pf lo hb
  obtain ⟨⟨a0, a1, a2, af⟩, ⟨b0, b1, b2, bf⟩, ⟨p0, p1, p2, pf⟩, lo⟩ := id C
  go_wp2_with fail
  replace C := C.put n (U P.v) (U P.x)
  clear a0 a1 a2 af b0 b1 b2 bf p0 p1 p2 pf lo
  obtain ⟨⟨a0, a1, a2, af⟩, ⟨b0, b1, b2, bf⟩, ⟨p0, p1, p2, pf⟩, lo⟩ := C
  exact bodyPost_ret (v := .agg #[.int .i64 n, .int .u64 (U P.v), .int .u64 (U P.x)]) (by simp [results, Tryz.results31, go_sem, p0, p1, p2]) rfl ⟨rfl, lo⟩
set_option maxRecDepth 100000 in
set_option maxHeartbeats 1000000 in
theorem sar_kk (n m : Nat) (a c : Vx) (w : World) (ha : a.ok n) (hc : c.ok m) (hx : (c.x == 0#64) = true) : Calls Tryz.prog 31 #[.agg #[.int .i64 n, .int .u64 (U a.v), .int .u64 (U a.x)], .agg #[.int .i64 m, .int .u64 (U c.v), .int .u64 (U c.x)]] w fun e w' => e = .returned (.agg #[.int .i64 n, .int .u64 (U (vsar n a c.v.toNat).v), .int .u64 (U (vsar n a c.v.toNat).x)]) ∧ Below w.heap.size w w' := by
  obtain ⟨av, ax⟩ := a
  obtain ⟨cv, cx⟩ := c
  have va := Lib.hid fun w1 (h : w1.cell? ⟨w.heap.size, 0, none⟩ = some (.int .i64 n)) => shift_Sar n m ⟨av, ax⟩ ⟨cv, cx⟩ w.heap.size w1 ha hc hx h
  clear ha hc hx
  show Calls Tryz.prog 31 #[.agg #[.int .i64 n, .int .u64 (U av), .int .u64 (U ax)], .agg #[.int .i64 m, .int .u64 (U cv), .int .u64 (U cx)]] w fun e w' => e = .returned (.agg #[.int .i64 n, .int .u64 (U ((ext n av).sshiftRight cv.toNat &&& msk n)), .int .u64 (U ((ext n ax).sshiftRight cv.toNat &&& msk n))]) ∧ Below w.heap.size w w'
  go_enter Tryz.func31, Tryz.ntmps31
  go_wp2_with fail
  have C := tb_new (w := w) ⟨n, av, ax⟩ ⟨m, cv, cx⟩
  generalize (((w.alloc (Obj.cells #[Value.int IntKind.i64 n, Value.int IntKind.u64 (U av), Value.int IntKind.u64 (U ax)] 29)).alloc (Obj.cells #[Value.int IntKind.i64 m, Value.int IntKind.u64 (U cv), Value.int IntKind.u64 (U cx)] 29)).alloc (Obj.cells #[Value.int IntKind.i64 0, Value.int IntKind.u64 0, Value.int IntKind.u64 0] 29)) = W at C ⊢
  obtain ⟨⟨a0, a1, a2, af⟩, ⟨b0, b1, b2, bf⟩, ⟨p0, p1, p2, pf⟩, lo⟩ := id C
  go_wp2_with fail
  refine (va.out _ a0).mono ?_
  rintro e W1 ⟨rfl, hb⟩
  replace C := C.below hb
  clear a0 a1 a2 af b0 b1 b2 bf p0 p1 p2 pf lo hb
  obtain ⟨⟨a0, a1, a2, af⟩, ⟨b0, b1, b2, bf⟩, ⟨p0, p1, p2, pf⟩, lo⟩ := id C
  go_wp2_with fail
  replace C := C.put n (U ((ext n av).sshiftRight cv.toNat &&& msk n)) (U ((ext n ax).sshiftRight cv.toNat &&& msk n))
  clear a0 a1 a2 af b0 b1 b2 bf p0 p1 p2 pf lo
  obtain ⟨⟨a0, a1, a2, af⟩, ⟨b0, b1, b2, bf⟩, ⟨p0, p1, p2, pf⟩, lo⟩ := C
  exact bodyPost_ret (v := .agg #[.int .i64 n, .int .u64 (U ((ext n av).sshiftRight cv.toNat &&& msk n)), .int .u64 (U ((ext n ax).sshiftRight cv.toNat &&& msk n))]) (by simp [results, Tryz.results31, go_sem, p0, p1, p2]) rfl ⟨rfl, lo⟩
theorem sar_any (a c : Rb) (w : World) : Calls Tryz.prog 31 #[.agg #[.int .i64 a.W, .int .u64 (U a.v), .int .u64 (U a.x)], .agg #[.int .i64 c.W, .int .u64 (U c.v), .int .u64 (U c.x)]] w fun e w' => e = .returned (.agg #[.int .i64 (shR vsar a c).W, .int .u64 (U (shR vsar a c).v), .int .u64 (U (shR vsar a c).x)]) ∧ Below w.heap.size w w' := by
  cases ha : a.okB
  · have e : shR vsar a c = ⟨0, 0#64, 0#64⟩ := by unfold shR; rw [ha]; rfl
    rw [e]; exact sar_ia a c w ha
  obtain ⟨n, en, oa⟩ := Rb.ok_of ha
  obtain ⟨aW, av, ax⟩ := a
  obtain rfl : aW = n := en
  cases hc : c.okB
  · have e : shR vsar ⟨n, av, ax⟩ c = ⟨0, 0#64, 0#64⟩ := by unfold shR; rw [hc, Bool.and_false]; rfl
    rw [e]; exact sar_ib n ⟨av, ax⟩ c w oa hc
  obtain ⟨m, em, oc⟩ := Rb.ok_of hc
  obtain ⟨cW, cv, cx⟩ := c
  obtain rfl : cW = m := em
  by_cases hx : cx = 0#64
  · have e : shR vsar ⟨n, av, ax⟩ ⟨m, cv, cx⟩ = ⟨n, (vsar n ⟨av, ax⟩ cv.toNat).v, (vsar n ⟨av, ax⟩ cv.toNat).x⟩ := by unfold shR; rw [ha, hc, Bool.and_self, if_pos rfl]; exact if_pos hx
    rw [e]; exact sar_kk n m ⟨av, ax⟩ ⟨cv, cx⟩ w oa oc (by simpa using hx)
  · have e : shR vsar ⟨n, av, ax⟩ ⟨m, cv, cx⟩ = ⟨n, (fl n 3).v, (fl n 3).x⟩ := by unfold shR; rw [ha, hc, Bool.and_self, if_pos rfl]; exact if_neg hx
    rw [e]; exact sar_xx n m ⟨av, ax⟩ ⟨cv, cx⟩ w oa oc (by simpa using hx)
end Go.Proofs.YtmaokbdjahgkiaaGreatDoor
