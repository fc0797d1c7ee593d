/- masklaw1.binary and the reference's Binary at the shifts. -/
import Derived.Test.YtodldcdfdjooaaaGreatDoorShifts
import Derived.Test.YtodldcdfdjooaaaGreatDoorPair
import Derived.Test.YtodldcdfdjooaaaGreatDoorRefMoved
import Derived.Test.YtodldcdfdjooaaaGreatDoorVectors
namespace Go.Proofs.YtodldcdfdjooaaaGreatDoor
open Go Go.RowKit Go.Sort
set_option linter.unusedVariables false
set_option maxRecDepth 100000 in
set_option maxHeartbeats 1000000 in
theorem binary_Shl (a b P : Rb) (s : Bool) (c : ∀ w, Calls Tryz.prog 54 #[.agg #[.int .i64 a.W, .int .u64 (U a.v), .int .u64 (U a.x)], .agg #[.int .i64 b.W, .int .u64 (U b.v), .int .u64 (U b.x)]] w fun e w' => e = .returned (.agg #[.int .i64 P.W, .int .u64 (U P.v), .int .u64 (U P.x)]) ∧ Below w.heap.size w w') (w : World) : Calls Tryz.prog 42 #[.int .i64 21, .agg #[.int .i64 a.W, .int .u64 (U a.v), .int .u64 (U a.x)], .agg #[.int .i64 b.W, .int .u64 (U b.v), .int .u64 (U b.x)], .bool s] w fun e w' => e = .returned (.agg #[.int .i64 P.W, .int .u64 (U P.v), .int .u64 (U P.x)]) ∧ Below w.heap.size w w' := by
  obtain ⟨aW, av, ax⟩ := a
  obtain ⟨bW, bv, bx⟩ := b
  have vc := Lib.hid c
  clear c
  show Calls Tryz.prog 42 #[.int .i64 21, .agg #[.int .i64 aW, .int .u64 (U av), .int .u64 (U ax)], .agg #[.int .i64 bW, .int .u64 (U bv), .int .u64 (U bx)], .bool s] w _
  go_enter Tryz.func42, Tryz.ntmps42
  go_wp2_with fail
  have C := tb_new (w := w) ⟨aW, av, ax⟩ ⟨bW, bv, bx⟩
  generalize (((w.alloc (Obj.cells #[Value.int IntKind.i64 aW, Value.int IntKind.u64 (U av), Value.int IntKind.u64 (U ax)] 24)).alloc (Obj.cells #[Value.int IntKind.i64 bW, Value.int IntKind.u64 (U bv), Value.int IntKind.u64 (U bx)] 24)).alloc (Obj.cells #[Value.int IntKind.i64 0, Value.int IntKind.u64 0, Value.int IntKind.u64 0] 24)) = W at C ⊢
  obtain ⟨⟨a0, a1, a2, af⟩, ⟨b0, b1, b2, bf⟩, ⟨p0, p1, p2, pf⟩, lo⟩ := id C
  go_wp2_with fail
  refine (vc.out _).mono ?_
  rintro e W1 ⟨rfl, hb⟩
  replace C := C.below hb
  clear a0 a1 a2 af b0 b1 b2 bf p0 p1 p2 pf lo hb
  obtain ⟨⟨a0, a1, a2, af⟩, ⟨b0, b1, b2, bf⟩, ⟨p0, p1, p2, pf⟩, lo⟩ := id C
  go_wp2_with fail
  replace C := C.put P.W (U P.v) (U P.x)
  clear a0 a1 a2 af b0 b1 b2 bf p0 p1 p2 pf lo
  obtain ⟨⟨a0, a1, a2, af⟩, ⟨b0, b1, b2, bf⟩, ⟨p0, p1, p2, pf⟩, lo⟩ := C
  exact bodyPost_ret (v := .agg #[.int .i64 P.W, .int .u64 (U P.v), .int .u64 (U P.x)]) (by simp [results, Tryz.results42, go_sem, p0, p1, p2]) rfl ⟨rfl, lo⟩
set_option maxRecDepth 100000 in
set_option maxHeartbeats 1000000 in
theorem binary_Shr (a b P : Rb) (s : Bool) (c : ∀ w, Calls Tryz.prog 55 #[.agg #[.int .i64 a.W, .int .u64 (U a.v), .int .u64 (U a.x)], .agg #[.int .i64 b.W, .int .u64 (U b.v), .int .u64 (U b.x)]] w fun e w' => e = .returned (.agg #[.int .i64 P.W, .int .u64 (U P.v), .int .u64 (U P.x)]) ∧ Below w.heap.size w w') (w : World) : Calls Tryz.prog 42 #[.int .i64 22, .agg #[.int .i64 a.W, .int .u64 (U a.v), .int .u64 (U a.x)], .agg #[.int .i64 b.W, .int .u64 (U b.v), .int .u64 (U b.x)], .bool s] w fun e w' => e = .returned (.agg #[.int .i64 P.W, .int .u64 (U P.v), .int .u64 (U P.x)]) ∧ Below w.heap.size w w' := by
  obtain ⟨aW, av, ax⟩ := a
  obtain ⟨bW, bv, bx⟩ := b
  have vc := Lib.hid c
  clear c
  show Calls Tryz.prog 42 #[.int .i64 22, .agg #[.int .i64 aW, .int .u64 (U av), .int .u64 (U ax)], .agg #[.int .i64 bW, .int .u64 (U bv), .int .u64 (U bx)], .bool s] w _
  go_enter Tryz.func42, Tryz.ntmps42
  go_wp2_with fail
  have C := tb_new (w := w) ⟨aW, av, ax⟩ ⟨bW, bv, bx⟩
  generalize (((w.alloc (Obj.cells #[Value.int IntKind.i64 aW, Value.int IntKind.u64 (U av), Value.int IntKind.u64 (U ax)] 24)).alloc (Obj.cells #[Value.int IntKind.i64 bW, Value.int IntKind.u64 (U bv), Value.int IntKind.u64 (U bx)] 24)).alloc (Obj.cells #[Value.int IntKind.i64 0, Value.int IntKind.u64 0, Value.int IntKind.u64 0] 24)) = W at C ⊢
  obtain ⟨⟨a0, a1, a2, af⟩, ⟨b0, b1, b2, bf⟩, ⟨p0, p1, p2, pf⟩, lo⟩ := id C
  go_wp2_with fail
  refine (vc.out _).mono ?_
  rintro e W1 ⟨rfl, hb⟩
  replace C := C.below hb
  clear a0 a1 a2 af b0 b1 b2 bf p0 p1 p2 pf lo hb
  obtain ⟨⟨a0, a1, a2, af⟩, ⟨b0, b1, b2, bf⟩, ⟨p0, p1, p2, pf⟩, lo⟩ := id C
  go_wp2_with fail
  replace C := C.put P.W (U P.v) (U P.x)
  clear a0 a1 a2 af b0 b1 b2 bf p0 p1 p2 pf lo
  obtain ⟨⟨a0, a1, a2, af⟩, ⟨b0, b1, b2, bf⟩, ⟨p0, p1, p2, pf⟩, lo⟩ := C
  exact bodyPost_ret (v := .agg #[.int .i64 P.W, .int .u64 (U P.v), .int .u64 (U P.x)]) (by simp [results, Tryz.results42, go_sem, p0, p1, p2]) rfl ⟨rfl, lo⟩
set_option maxRecDepth 100000 in
set_option maxHeartbeats 1000000 in
theorem binary_Sar (a b P : Rb) (s : Bool) (c : ∀ w, Calls Tryz.prog 56 #[.agg #[.int .i64 a.W, .int .u64 (U a.v), .int .u64 (U a.x)], .agg #[.int .i64 b.W, .int .u64 (U b.v), .int .u64 (U b.x)]] w fun e w' => e = .returned (.agg #[.int .i64 P.W, .int .u64 (U P.v), .int .u64 (U P.x)]) ∧ Below w.heap.size w w') (w : World) : Calls Tryz.prog 42 #[.int .i64 23, .agg #[.int .i64 a.W, .int .u64 (U a.v), .int .u64 (U a.x)], .agg #[.int .i64 b.W, .int .u64 (U b.v), .int .u64 (U b.x)], .bool s] w fun e w' => e = .returned (.agg #[.int .i64 P.W, .int .u64 (U P.v), .int .u64 (U P.x)]) ∧ Below w.heap.size w w' := by
  obtain ⟨aW, av, ax⟩ := a
  obtain ⟨bW, bv, bx⟩ := b
  have vc := Lib.hid c
  clear c
  show Calls Tryz.prog 42 #[.int .i64 23, .agg #[.int .i64 aW, .int .u64 (U av), .int .u64 (U ax)], .agg #[.int .i64 bW, .int .u64 (U bv), .int .u64 (U bx)], .bool s] w _
  go_enter Tryz.func42, Tryz.ntmps42
  go_wp2_with fail
  have C := tb_new (w := w) ⟨aW, av, ax⟩ ⟨bW, bv, bx⟩
  generalize (((w.alloc (Obj.cells #[Value.int IntKind.i64 aW, Value.int IntKind.u64 (U av), Value.int IntKind.u64 (U ax)] 24)).alloc (Obj.cells #[Value.int IntKind.i64 bW, Value.int IntKind.u64 (U bv), Value.int IntKind.u64 (U bx)] 24)).alloc (Obj.cells #[Value.int IntKind.i64 0, Value.int IntKind.u64 0, Value.int IntKind.u64 0] 24)) = W at C ⊢
  obtain ⟨⟨a0, a1, a2, af⟩, ⟨b0, b1, b2, bf⟩, ⟨p0, p1, p2, pf⟩, lo⟩ := id C
  go_wp2_with fail
  refine (vc.out _).mono ?_
  rintro e W1 ⟨rfl, hb⟩
  replace C := C.below hb
  clear a0 a1 a2 af b0 b1 b2 bf p0 p1 p2 pf lo hb
  obtain ⟨⟨a0, a1, a2, af⟩, ⟨b0, b1, b2, bf⟩, ⟨p0, p1, p2, pf⟩, lo⟩ := id C
  go_wp2_with fail
  replace C := C.put P.W (U P.v) (U P.x)
  clear a0 a1 a2 af b0 b1 b2 bf p0 p1 p2 pf lo
  obtain ⟨⟨a0, a1, a2, af⟩, ⟨b0, b1, b2, bf⟩, ⟨p0, p1, p2, pf⟩, lo⟩ := C
  exact bodyPost_ret (v := .agg #[.int .i64 P.W, .int .u64 (U P.v), .int .u64 (U P.x)]) (by simp [results, Tryz.results42, go_sem, p0, p1, p2]) rfl ⟨rfl, lo⟩
set_option maxRecDepth 100000 in
set_option maxHeartbeats 1000000 in
theorem Binary_Shl (v u : Value) (s : Bool) (Q : Value → World → Prop) (w : World) (c : Calls Tryz.prog 86 #[v, u, .bool true, .int .u8 48] w fun e w' => ∃ r, e = .returned r ∧ Q r w' ∧ Below w.heap.size w w') :
    Calls Tryz.prog 41 #[.int .i64 21, v, u, .bool s] w fun e w' => ∃ r, e = .returned r ∧ Q r w' ∧ Below w.heap.size w w' := by
  have C := Lib.hid c
  clear c
  go_enter Tryz.func41, Tryz.ntmps41
  go_wp2_with fail
  refine C.out.mono ?_
  rintro e w1 ⟨r, rfl, hq, hb⟩
  go_wp2_with fail
  go_ret
  exact ⟨r, rfl, hq, hb⟩
set_option maxRecDepth 100000 in
set_option maxHeartbeats 1000000 in
theorem Binary_Shr (v u : Value) (s : Bool) (Q : Value → World → Prop) (w : World) (c : Calls Tryz.prog 86 #[v, u, .bool false, .int .u8 48] w fun e w' => ∃ r, e = .returned r ∧ Q r w' ∧ Below w.heap.size w w') :
    Calls Tryz.prog 41 #[.int .i64 22, v, u, .bool s] w fun e w' => ∃ r, e = .returned r ∧ Q r w' ∧ Below w.heap.size w w' := by
  have C := Lib.hid c
  clear c
  go_enter Tryz.func41, Tryz.ntmps41
  go_wp2_with fail
  refine C.out.mono ?_
  rintro e w1 ⟨r, rfl, hq, hb⟩
  go_wp2_with fail
  go_ret
  exact ⟨r, rfl, hq, hb⟩
set_option maxRecDepth 100000 in
set_option maxHeartbeats 1000000 in
theorem Binary_Sar (bl off cap n : Nat) (z : UInt8) (u : Value) (s : Bool) (Q : Value → World → Prop) (w : World) (h1 : 1 ≤ n) (h2 : n ≤ 64) (hz : w.cell? ⟨bl, off + (n - 1), none⟩ = some (.int .u8 (z.toNat : Int)))
    (c : Calls Tryz.prog 86 #[.slice (some ⟨bl, off, none⟩) n cap, u, .bool false, .int .u8 (z.toNat : Int)] w fun e w' => ∃ r, e = .returned r ∧ Q r w' ∧ Below w.heap.size w w') :
    Calls Tryz.prog 41 #[.int .i64 23, .slice (some ⟨bl, off, none⟩) n cap, u, .bool s] w fun e w' => ∃ r, e = .returned r ∧ Q r w' ∧ Below w.heap.size w w' := by
  have C := Lib.hid c
  clear c
  have k0 : (0 : Int) ≤ (n : Int) - 1 := by omega
  go_enter Tryz.func41, Tryz.ntmps41
  go_wp2_with fail
  refine C.out.mono ?_
  rintro e w1 ⟨r, rfl, hq, hb⟩
  go_wp2_with fail
  go_ret
  exact ⟨r, rfl, hq, hb⟩
/-- what moved hands back, as a vector -/
theorem moved_lf (up : Bool) (f : UInt8) (op : Nat → Vx → Nat → Vx) {n m : Nat} {a c : Vx} (oa : a.ok n) (oc : c.ok m) (hop : ∀ k, (op n a k).ok n)
    (hm : movL (vl a n) (min c.v.toNat 64) up f = vl (op n a c.v.toNat) n) (v u : Value) (w : World) (h : Row8 w v (vl a n)) (h' : Row8 w u (vl c m)) :
    Calls Tryz.prog 86 #[v, u, .bool up, .int .u8 (f.toNat : Int)] w fun e w' => ∃ r, e = .returned r ∧ LF (if c.x = 0#64 then ⟨n, (op n a c.v.toNat).v, (op n a c.v.toNat).x⟩ else ⟨n, (fl n 3).v, (fl n 3).x⟩) r w' ∧ Below w.heap.size w w' := by
  have n2 := oa.hi
  have m2 := oc.hi
  by_cases hx : c.x = 0#64
  · rw [if_pos hx]
    have hk : knownL (vl c m) = true := by rw [known_vl oc]; simpa using hx
    have hq : cntD (vl c m) 64 (vl c m).length = min c.v.toNat 64 := by rw [cnt_num, vl_len, num_vl oc hx]
    have key : Calls Tryz.prog 86 #[v, u, .bool up, .int .u8 (f.toNat : Int)] w fun e w' => ∃ v, e = .returned v ∧ Row8 w' v (movL (vl a n) (min c.v.toNat 64) up f) ∧ Below w.heap.size w w' := by
      cases up
      · exact moved_false v u _ _ _ f (by rw [vl_len]; omega) (by rw [vl_len]; omega) hk hq w h h'
      · exact moved_true v u _ _ _ f (by rw [vl_len]; omega) (by rw [vl_len]; omega) hk hq w h h'
    rw [hm] at key
    exact key.mono fun e w' ⟨r, he, hr, hb⟩ => ⟨r, he, ⟨_, hr, Bl_vl (hop _), by rw [vl_len]; omega⟩, hb⟩
  · rw [if_neg hx]
    have hk : knownL (vl c m) = false := by rw [known_vl oc]; simpa using hx
    have key := moved_x v u _ _ up f (by rw [vl_len]; omega) (by rw [vl_len]; omega) hk w h h'
    have e : List.replicate (vl a n).length 120 = vl (fl n 3) n := by
      rw [vl_len]
      refine Eq.trans ?_ (map_vl2 (f := fun _ => 120) fun i hi => ?_)
      · rw [List.map_const', List.length_range]
      · refine Eq.symm ?_
        unfold st fl; simp [msk_bit n2, hi]
    rw [e] at key
    exact key.mono fun e w' ⟨r, he, hr, hb⟩ => ⟨r, he, ⟨_, hr, Bl_vl (fl_ok oa.lo oa.hi 3), by rw [vl_len]; omega⟩, hb⟩
theorem okc_loose {op : Int} (h : looseB op = true) (a b : Rb) : okc op a b = (a.okB && b.okB) := by unfold okc; rw [h]; simp
theorem shR_ok {op : Nat → Vx → Nat → Vx} {n m : Nat} {a c : Vx} (oa : a.ok n) (oc : c.ok m) : shR op ⟨n, a.v, a.x⟩ ⟨m, c.v, c.x⟩ = if c.x = 0#64 then ⟨n, (op n a c.v.toNat).v, (op n a c.v.toNat).x⟩ else ⟨n, (fl n 3).v, (fl n 3).x⟩ := by
  unfold shR
  rw [Rb.okB_of oa, Rb.okB_of oc, Bool.and_self, if_pos rfl]; rfl
theorem shR_no {op : Nat → Vx → Nat → Vx} {a c : Rb} (h : (a.okB && c.okB) = false) : shR op a c = ZR := by
  unfold shR; rw [h]; rfl
theorem vR_at (n : Nat) (v x : BitVec 64) : vR ⟨n, v, x⟩ = vl ⟨v, x⟩ n := by unfold vR; rw [Int.toNat_natCast]
theorem fact_Shl (a b : Rb) (s : Bool) : OpFact a b s 21 (shR vshl a b) := by
  refine ⟨fun w => binary_Shl a b _ s (fun w => shl_any a b w) w, fun hk w v u h h' => ?_, fun hk => shR_no (by rw [← hk, okc_loose rfl])⟩
  rw [okc_loose rfl, Bool.and_eq_true] at hk
  obtain ⟨n, en, oa⟩ := Rb.ok_of hk.1
  obtain ⟨m, em, oc⟩ := Rb.ok_of hk.2
  obtain ⟨aW, av, ax⟩ := a
  obtain ⟨bW, bv, bx⟩ := b
  obtain rfl : aW = n := en
  obtain rfl : bW = m := em
  rw [vR_at] at h h'
  have key := moved_lf true 48 vshl (a := ⟨av, ax⟩) (c := ⟨bv, bx⟩) oa oc (fun k => vshl_okv oa.lo oa.hi _ k) (shl_vl _ oa.hi _) v u w h h'
  rw [← shR_ok oa oc] at key
  exact Binary_Shl v u s _ w key
theorem fact_Shr (a b : Rb) (s : Bool) : OpFact a b s 22 (shR vshr a b) := by
  refine ⟨fun w => binary_Shr a b _ s (fun w => shr_any a b w) w, fun hk w v u h h' => ?_, fun hk => shR_no (by rw [← hk, okc_loose rfl])⟩
  rw [okc_loose rfl, Bool.and_eq_true] at hk
  obtain ⟨n, en, oa⟩ := Rb.ok_of hk.1
  obtain ⟨m, em, oc⟩ := Rb.ok_of hk.2
  obtain ⟨aW, av, ax⟩ := a
  obtain ⟨bW, bv, bx⟩ := b
  obtain rfl : aW = n := en
  obtain rfl : bW = m := em
  rw [vR_at] at h h'
  have key := moved_lf false 48 vshr (a := ⟨av, ax⟩) (c := ⟨bv, bx⟩) oa oc (fun k => vshr_ok oa.lo oa.hi _ k) (shr_vl oa _) v u w h h'
  rw [← shR_ok oa oc] at key
  exact Binary_Shr v u s _ w key
theorem fact_Sar (a b : Rb) (s : Bool) : OpFact a b s 23 (shR vsar a b) := by
  refine ⟨fun w => binary_Sar a b _ s (fun w => sar_any a b w) w, fun hk w v u h h' => ?_, fun hk => shR_no (by rw [← hk, okc_loose rfl])⟩
  rw [okc_loose rfl, Bool.and_eq_true] at hk
  obtain ⟨n, en, oa⟩ := Rb.ok_of hk.1
  obtain ⟨m, em, oc⟩ := Rb.ok_of hk.2
  obtain ⟨aW, av, ax⟩ := a
  obtain ⟨bW, bv, bx⟩ := b
  obtain rfl : aW = n := en
  obtain rfl : bW = m := em
  rw [vR_at] at h h'
  have n1 := oa.lo
  have key := moved_lf false (st ⟨av, ax⟩ (n - 1)) vsar (a := ⟨av, ax⟩) (c := ⟨bv, bx⟩) oa oc (fun k => vsar_ok oa.lo oa.hi _ k) (sar_vl _ oa.lo oa.hi _) v u w h h'
  rw [← shR_ok oa oc] at key
  obtain ⟨ad, cap, rfl, -⟩ := id h.sh
  obtain ⟨bl, off, rfl, -, hc⟩ := row_nth h (k := 0) (by rw [vl_len]; omega)
  have hz := hc (n - 1) (by rw [vl_len]; omega)
  have e : (vl ⟨av, ax⟩ n)[n - 1]'(by rw [vl_len]; omega) = st ⟨av, ax⟩ (n - 1) := by
    rw [← getD_at (by rw [vl_len]; omega)]; exact vl_get _ n _ (by omega)
  rw [e] at hz
  rw [vl_len] at key ⊢
  exact Binary_Sar bl off cap n _ u s _ w n1 oa.hi hz key
set_option maxRecDepth 100000 in
set_option maxHeartbeats 2000000 in
theorem bitsShifted_any {B : Nat} (a b : Rb) (w : World) (hG : Glob B w) : Calls Tryz.prog 5 #[.agg #[.int .i64 a.W, .int .u64 (U a.v), .int .u64 (U a.x)], .agg #[.int .i64 b.W, .int .u64 (U b.v), .int .u64 (U b.x)]] w fun e w' => e = .returned (.bool true) ∧ Below w.heap.size w w' := by
  have HG := Lib.hid hG
  have HP := Lib.hid fun v w hv => pair_ok [21, 22, 23] (by decide) v a b false w hv (fun op ho => by
    simp only [List.mem_cons, List.not_mem_nil, or_false] at ho
    rcases ho with rfl | rfl | rfl
    · exact ⟨_, fact_Shl a b false⟩
    · exact ⟨_, fact_Shr a b false⟩
    · exact ⟨_, fact_Sar a b false⟩)
  clear hG
  go_enter Tryz.func5, Tryz.ntmps5
  go_wp2_with fail
  have T := px_new (w := w) a b
  generalize ((w.alloc (Obj.cells #[Value.int IntKind.i64 a.W, Value.int IntKind.u64 (U a.v), Value.int IntKind.u64 (U a.x)] 24)).alloc (Obj.cells #[Value.int IntKind.i64 b.W, Value.int IntKind.u64 (U b.v), Value.int IntKind.u64 (U b.x)] 24)) = w0 at T ⊢
  refine (vectors_ok _ (HG.out.here T.lo)).mono ?_
  rintro e w1 ⟨rfl, hb⟩
  replace T := T.below hb
  clear hb
  obtain ⟨⟨a0, a1, a2, af⟩, ⟨b0, b1, b2, bf⟩, lo⟩ := id T
  have z0 := T.ba.lt
  have z1 := T.bb.lt
  go_wp2_with fail
  refine (HP.out _ _ ⟨_, _, _, rfl, fun q hq => ?_⟩).mono ?_
  · match q, hq with
    | 0, _ => go_simp
    | 1, _ => go_simp
    | 2, _ => go_simp
  rintro e w2 ⟨rfl, hb⟩
  have lo2 : Below w.heap.size w w2 := (lo.alloc lo.size _).trans (hb.mono (lo.alloc lo.size _).size)
  clear hb a0 a1 a2 af b0 b1 b2 bf lo T
  go_wp2_with fail
  go_ret
  exact ⟨rfl, lo2⟩
end Go.Proofs.YtodldcdfdjooaaaGreatDoor
