/- The law BitsChosen: vectors that fit. -/
import Derived.Test.YtdpmojkpfnkcdaaDoorLawChosenA
namespace Go.Proofs.YtdpmojkpfnkcdaaDoor
open Go Go.RowKit Go.Sort
set_option linter.unusedVariables false
set_option maxRecDepth 100000 in
set_option maxHeartbeats 4000000 in
theorem chosen_ci {B : Nat} (n : Nat) (c : Rb) (a b : Vx) (kind : Int) (w : World) (hG : Glob B w) (ha : a.ok n) (hb : b.ok n) (hc : c.okB = false) (hk : kind = 0 ∨ kind = 1 ∨ kind = 2) : Calls Tryd.prog 4 #[.agg #[.int .i64 c.W, .int .u64 (U c.v), .int .u64 (U c.x)], .agg #[.int .i64 n, .int .u64 (U a.v), .int .u64 (U a.x)], .agg #[.int .i64 n, .int .u64 (U b.v), .int .u64 (U b.x)], .int .i64 kind] w fun e w' => e = .returned (.bool true) ∧ Below w.heap.size w w' := by
  have hhi := ha.hi
  have HA := Lib.hid ha
  have HB := Lib.hid hb
  have va := Lib.hid fun w => valid_is ⟨(n : Int), a.v, a.x⟩ true (Rb.okB_of ha) w
  have vb := Lib.hid fun w => valid_is ⟨(n : Int), b.v, b.x⟩ true (Rb.okB_of hb) w
  have vc := Lib.hid fun w => valid_is c false hc w
  have HFit := Lib.hid fun w => fits_ok n a b kind w ha hb
  have HRes := Lib.hid fun w => resolve_ok n a b w ha hb
  have HRV := Lib.hid (Bl_map (vres_ok ha hb) (res_vl a b ha.hi))
  have HCnd := Lib.hid fun w => cond_ill c ⟨(n : Int), a.v, a.x⟩ ⟨(n : Int), b.v, b.x⟩ w hc
  clear hc
  generalize vres a b = rr at HRes HRV
  have HFV := Lib.hid (fit_vl ha hb kind hk)
  have HK := Lib.hid hk
  clear hk
  generalize vfits a b kind = vf at HFit HFV
  have HG := Lib.hid hG
  clear hG ha hb
  go_enter Tryd.func4, Tryd.ntmps4
  go_wp2_with fail
  obtain ⟨t1, t2, t3, t4⟩ := three_new (w := w) c ⟨n, a.v, a.x⟩ ⟨n, b.v, b.x⟩
  generalize (((w.alloc (Obj.cells #[Value.int IntKind.i64 c.W, Value.int IntKind.u64 (U c.v), Value.int IntKind.u64 (U c.x)] 24)).alloc (Obj.cells #[Value.int IntKind.i64 n, Value.int IntKind.u64 (U a.v), Value.int IntKind.u64 (U a.x)] 24)).alloc (Obj.cells #[Value.int IntKind.i64 n, Value.int IntKind.u64 (U b.v), Value.int IntKind.u64 (U b.x)] 24)) = w0 at t1 t2 t3 t4 ⊢
  refine (va.out _).mono ?_
  rintro e w1 ⟨rfl, hb⟩
  replace t1 := t1.below hb
  replace t2 := t2.below hb
  replace t3 := t3.below hb
  replace t4 := t4.trans (hb.mono t4.size)
  clear hb
  obtain ⟨a0, a1, a2, af⟩ := id t2
  obtain ⟨b0, b1, b2, bf⟩ := id t3
  go_wp2_with fail
  clear a0 a1 a2 af b0 b1 b2 bf
  refine (vb.out _).mono ?_
  rintro e w2 ⟨rfl, hb⟩
  replace t1 := t1.below hb
  replace t2 := t2.below hb
  replace t3 := t3.below hb
  replace t4 := t4.trans (hb.mono t4.size)
  clear hb
  obtain ⟨a0, a1, a2, af⟩ := id t2
  obtain ⟨b0, b1, b2, bf⟩ := id t3
  go_wp2_with fail
  clear a0 a1 a2 af b0 b1 b2 bf
  have C := cb_new (c := c) (a := ⟨(n : Int), a.v, a.x⟩) (b := ⟨(n : Int), b.v, b.x⟩) t1 t2 t3 t4
  generalize w2.heap.size = g at C ⊢
  generalize ((w2.alloc (Obj.cells #[Value.int IntKind.i64 0, Value.int IntKind.u64 0, Value.int IntKind.u64 0] 24)).alloc (Obj.cells #[Value.int IntKind.i64 0, Value.int IntKind.u64 0, Value.int IntKind.u64 0] 24)) = W at C ⊢
  clear t1 t2 t3 t4
  obtain ⟨⟨c0, c1, c2, cf⟩, ⟨a0, a1, a2, af⟩, ⟨b0, b1, b2, bf⟩, ⟨h0, h1, h2, hf⟩, ⟨r0, r1, r2, rf⟩, hlt, hlo⟩ := id C
  have gc0 := cell_regrown c0
  have gc1 := cell_regrown c1
  have gc2 := cell_regrown c2
  have ga0 := cell_regrown a0
  have ga1 := cell_regrown a1
  have ga2 := cell_regrown a2
  have gb0 := cell_regrown b0
  have gb1 := cell_regrown b1
  have gb2 := cell_regrown b2
  have gh0 := cell_regrown h0
  have gh1 := cell_regrown h1
  have gh2 := cell_regrown h2
  have gr0 := cell_regrown r0
  have gr1 := cell_regrown r1
  have gr2 := cell_regrown r2
  refine wp_region_rel 6 (by kernel_rfl) (by kernel_rfl) ?_
  simp only [List.take_succ_cons, List.take_zero, List.drop_succ_cons, List.drop_zero]
  (refine rel_fix0 (fun K hK => ?_); go_simp; refine hK _ ?_; clear hK K)
  refine rel_fact [] (fun v w => Row8 w v (vl a n)) 27 rfl (by simp [Act.put]) (row8_sta _) (by rfl) (by kernel_rfl) (by kernel_rfl) ?_ ?_
  · intro d os
    simp only [relAll]
    go_simp
    exact ret_fact (refV_row n a _ HA.out)
  (refine rel_fix (by kernel_rfl) (by kernel_rfl) (fun K hK => ?_); go_simp; refine hK _ ?_; clear hK K)
  refine rel_fact [] (fun v w => Row8 w v (vl b n)) 29 rfl (by simp [Act.put]) (row8_sta _) (by rfl) (by kernel_rfl) (by kernel_rfl) ?_ ?_
  · intro d os
    simp only [relAll]
    go_simp
    exact ret_fact (refV_row n b _ HB.out)
  refine rel_fact [(29, _), (27, _)] (fun v w => Row8 w v (List.zipWith resB (vl a n) (vl b n))) 30 rfl (by simp [Act.put]) (row8_sta _) (by rfl) (by kernel_rfl) (by kernel_rfl) ?_ ?_
  · intro d os
    simp only [relAll]
    rintro v2 h2' v1 h1'
    go_simp
    exact ret_fact (resolved_any _ _ _ _ (by rw [vl_len, vl_len]) (by rw [vl_len]; omega) _ h1' h2')
  refine rel_use [(30, _)] (.agg #[.int .i64 n, .int .u64 (U rr.v), .int .u64 (U rr.x)]) (by rfl) (by kernel_rfl) (by kernel_rfl) ?_ ?_
  · intro d os
    simp only [relAll]
    rintro v3 h3'
    go_simp
    exact ret_fix (refB_is _ _ _ HRV.out (by rw [List.length_zipWith, vl_len, vl_len]; omega) _ h3')
  refine rel_nil ?_
  intro d os
  simp only [relAll]
  rintro v3 - v2 - v1 -
  clear gc0 gc1 gc2 ga0 ga1 ga2 gb0 gb1 gb2 gh0 gh1 gh2 gr0 gr1 gr2 c0 c1 c2 a0 a1 a2 b0 b1 b2 h0 h1 h2 r0 r1 r2
  replace C := C.below (below_regrown W d os)
  generalize grow (redrawn W d) os = W4 at C ⊢
  clear hlt hlo cf af bf hf rf
  obtain ⟨⟨c0, c1, c2, cf⟩, ⟨a0, a1, a2, af⟩, ⟨b0, b1, b2, bf⟩, ⟨h0, h1, h2, hf⟩, ⟨r0, r1, r2, rf⟩, hlt, hlo⟩ := id C
  go_wp2_with fail
  replace C := C.putr n (U rr.v) (U rr.x)
  clear c0 c1 c2 cf a0 a1 a2 af b0 b1 b2 bf h0 h1 hf r0 r1 r2 rf hlt hlo
  generalize (((W4.setCell ⟨g + 1, 0, none⟩ (.int .i64 n)).setCell ⟨g + 1, 1, none⟩ (.int .u64 (U rr.v))).setCell ⟨g + 1, 2, none⟩ (.int .u64 (U rr.x))) = W5 at C ⊢
  obtain ⟨⟨c0, c1, c2, cf⟩, ⟨a0, a1, a2, af⟩, ⟨b0, b1, b2, bf⟩, ⟨h0, h1, h2, hf⟩, ⟨r0, r1, r2, rf⟩, hlt, hlo⟩ := id C
  go_wp2_with fail
  refine (vc.out _).mono ?_
  rintro e W6 ⟨rfl, hb⟩
  replace C := C.below hb
  clear hb c0 c1 c2 cf a0 a1 a2 af b0 b1 b2 bf h0 h1 h2 hf r0 r1 r2 rf hlt hlo
  obtain ⟨⟨c0, c1, c2, cf⟩, ⟨a0, a1, a2, af⟩, ⟨b0, b1, b2, bf⟩, ⟨h0, h1, h2, hf⟩, ⟨r0, r1, r2, rf⟩, hlt, hlo⟩ := id C
  go_wp2_with fail
  have HW := Lib.hid (HG.out.here hlo)
  have gc0 := cell_regrown c0
  have gc1 := cell_regrown c1
  have gc2 := cell_regrown c2
  have ga0 := cell_regrown a0
  have ga1 := cell_regrown a1
  have ga2 := cell_regrown a2
  have gb0 := cell_regrown b0
  have gb1 := cell_regrown b1
  have gb2 := cell_regrown b2
  have gh0 := cell_regrown h0
  have gh1 := cell_regrown h1
  have gh2 := cell_regrown h2
  have gr0 := cell_regrown r0
  have gr1 := cell_regrown r1
  have gr2 := cell_regrown r2
  refine wp_region_rel 33 (by kernel_rfl) (by kernel_rfl) ?_
  simp only [List.take_succ_cons, List.take_zero, List.drop_succ_cons, List.drop_zero]
  (refine rel_fix0 (fun K hK => ?_); go_simp; apply Exists.intro; refine ⟨fun _ _ => ?_, hK _ ?_⟩; (with_reducible exact ret_fix (vectors_ok _ (HW.out.here (below_regrown _ _ _)))); clear hK K)
  (refine rel_fix0 (fun K hK => ?_); go_simp; refine hK _ ?_; clear hK K)
  (refine rel_fix0 (fun K hK => ?_); go_simp; refine hK _ ?_; clear hK K)
  (refine rel_fix0 (fun K hK => ?_); go_simp; refine hK _ ?_; clear hK K)
  (refine rel_fix0 (fun K hK => ?_); go_simp; refine hK _ ?_; clear hK K)
  (refine rel_fix0 (fun K hK => ?_); go_simp; apply Exists.intro; refine ⟨fun _ _ => ?_, hK _ ?_⟩; (with_reducible exact ret_fix (HFit.out _)); clear hK K)
  (refine rel_fix0 (fun K hK => ?_); go_simp; refine hK _ ?_; clear hK K)
  (refine rel_fix0 (fun K hK => ?_); go_simp; refine hK _ ?_; clear hK K)
  (refine rel_fix0 (fun K hK => ?_); go_simp; refine hK _ ?_; clear hK K)
  refine rel_fact [] (fun v w => Row8 w v (vl a n)) 54 rfl (by simp [Act.put]) (row8_sta _) (by rfl) (by kernel_rfl) (by kernel_rfl) ?_ ?_
  · intro d os
    simp only [relAll]
    go_simp
    exact ret_fact (refV_row n a _ HA.out)
  (refine rel_fix (by kernel_rfl) (by kernel_rfl) (fun K hK => ?_); go_simp; refine hK _ ?_; clear hK K)
  refine rel_fact [] (fun v w => Row8 w v (vl b n)) 56 rfl (by simp [Act.put]) (row8_sta _) (by rfl) (by kernel_rfl) (by kernel_rfl) ?_ ?_
  · intro d os
    simp only [relAll]
    go_simp
    exact ret_fact (refV_row n b _ HB.out)
  (refine rel_fix (by kernel_rfl) (by kernel_rfl) (fun K hK => ?_); go_simp; refine hK _ ?_; clear hK K)
  refine rel_use [(56, _), (54, _)] (.bool vf) (by rfl) (by kernel_rfl) (by kernel_rfl) ?_ ?_
  · intro d os
    simp only [relAll]
    rintro v2 h2' v1 h1'
    go_simp
    exact ret_fix (refFit_any kind _ _ _ _ (by rw [vl_len, vl_len]) (by rw [vl_len]; omega) HK.out _ h1' h2') |> fun h => by rw [HFV.out] at h; exact h
  (refine rel_fix (by kernel_rfl) (by kernel_rfl) (fun K hK => ?_); go_simp; refine hK _ ?_; clear hK K)
  (refine rel_fix (by kernel_rfl) (by kernel_rfl) (fun K hK => ?_); go_simp; refine hK _ ?_; clear hK K)
  (refine rel_fix (by kernel_rfl) (by kernel_rfl) (fun K hK => ?_); go_simp; refine hK _ ?_; clear hK K)
  (refine rel_fix (by kernel_rfl) (by kernel_rfl) (fun K hK => ?_); go_simp; refine hK _ ?_; clear hK K)
  (refine rel_fix (by kernel_rfl) (by kernel_rfl) (fun K hK => ?_); go_simp; refine hK _ ?_; clear hK K)
  (refine rel_fix (by kernel_rfl) (by kernel_rfl) (fun K hK => ?_); go_simp; refine hK _ ?_; clear hK K)
  (refine rel_fix (by kernel_rfl) (by kernel_rfl) (fun K hK => ?_); go_simp; apply Exists.intro; refine ⟨fun _ _ => ?_, hK _ ?_⟩; (with_reducible exact ret_fix (HRes.out _)); clear hK K)
  (refine rel_fix (by kernel_rfl) (by kernel_rfl) (fun K hK => ?_); go_simp; refine hK _ ?_; clear hK K)
  (refine rel_fix (by kernel_rfl) (by kernel_rfl) (fun K hK => ?_); go_simp; refine hK _ ?_; clear hK K)
  (refine rel_fix (by kernel_rfl) (by kernel_rfl) (fun K hK => ?_); go_simp; refine hK _ ?_; clear hK K)
  (refine rel_fix (by kernel_rfl) (by kernel_rfl) (fun K hK => ?_); go_simp; refine hK _ ?_; clear hK K)
  (refine rel_fix (by kernel_rfl) (by kernel_rfl) (fun K hK => ?_); go_simp; refine hK _ ?_; clear hK K)
  (refine rel_fix (by kernel_rfl) (by kernel_rfl) (fun K hK => ?_); go_simp; refine hK _ ?_; clear hK K)
  (refine rel_fix (by kernel_rfl) (by kernel_rfl) (fun K hK => ?_); go_simp; refine hK _ ?_; clear hK K)
  (refine rel_fix (by kernel_rfl) (by kernel_rfl) (fun K hK => ?_); go_simp; apply Exists.intro; refine ⟨fun _ _ => ?_, hK _ ?_⟩; (with_reducible exact ret_fix (HCnd.out _)); clear hK K)
  (refine rel_fix (by kernel_rfl) (by kernel_rfl) (fun K hK => ?_); go_simp; refine hK _ ?_; clear hK K)
  (refine rel_fix (by kernel_rfl) (by kernel_rfl) (fun K hK => ?_); go_simp; refine hK _ ?_; clear hK K)
  (refine rel_fix (by kernel_rfl) (by kernel_rfl) (fun K hK => ?_); go_simp; refine hK _ ?_; clear hK K)
  (refine rel_fix (by kernel_rfl) (by kernel_rfl) (fun K hK => ?_); go_simp; refine hK _ ?_; clear hK K)
  refine rel_nil ?_
  intro d os
  simp only [relAll]
  rintro v2 - v1 -
  clear gc0 gc1 gc2 ga0 ga1 ga2 gb0 gb1 gb2 gh0 gh1 gh2 gr0 gr1 gr2 c0 c1 c2 a0 a1 a2 b0 b1 b2 h0 h1 h2 r0 r1 r2
  have hb9 := hlo.trans ((below_regrown W6 d os).mono hlo.size)
  generalize grow (redrawn W6 d) os = W9 at hb9 ⊢
  go_wp2_with fail
  go_ret
  exact ⟨rfl, hb9⟩
set_option maxRecDepth 100000 in
set_option maxHeartbeats 4000000 in
theorem chosen_ck {B : Nat} (n m : Nat) (c : Rb) (a b : Vx) (kind : Int) (w : World) (hG : Glob B w) (ha : a.ok n) (hb : b.ok n) (hc : Ok m c.v c.x) (hk : kind = 0 ∨ kind = 1 ∨ kind = 2) : Calls Tryd.prog 4 #[.agg #[.int .i64 m, .int .u64 (U c.v), .int .u64 (U c.x)], .agg #[.int .i64 n, .int .u64 (U a.v), .int .u64 (U a.x)], .agg #[.int .i64 n, .int .u64 (U b.v), .int .u64 (U b.x)], .int .i64 kind] w fun e w' => e = .returned (.bool true) ∧ Below w.heap.size w w' := by
  have hhi := ha.hi
  have HA := Lib.hid ha
  have HB := Lib.hid hb
  have va := Lib.hid fun w => valid_is ⟨(n : Int), a.v, a.x⟩ true (Rb.okB_of ha) w
  have vb := Lib.hid fun w => valid_is ⟨(n : Int), b.v, b.x⟩ true (Rb.okB_of hb) w
  have vc := Lib.hid fun w => valid_is (⟨(m : Int), c.v, c.x⟩ : Rb) true (Rb.okB_of hc) w
  have HFit := Lib.hid fun w => fits_ok n a b kind w ha hb
  have HRes := Lib.hid fun w => resolve_ok n a b w ha hb
  have HRV := Lib.hid (Bl_map (vres_ok ha hb) (res_vl a b ha.hi))
  have HCnd := Lib.hid fun w => cond_ok n m ⟨c.v, c.x⟩ a b w hc ha hb
  have HCV := Lib.hid (Bl_map (vcond_ok ⟨c.v, c.x⟩ ha hb) (cho_vl (b := b) hc ha))
  have HC := Lib.hid hc
  have hm2 := hc.hi
  clear hc
  have HCL : Hid ((choL (vl ⟨c.v, c.x⟩ m) (vl a n) (vl b n)).length ≤ 1000000) := by show _ ≤ _; rw [cho_vl HC.out ha, vl_len]; omega
  generalize vcond n ⟨c.v, c.x⟩ a b = rc at HCnd HCV
  generalize vres a b = rr at HRes HRV
  have HFV := Lib.hid (fit_vl ha hb kind hk)
  have HK := Lib.hid hk
  clear hk
  generalize vfits a b kind = vf at HFit HFV
  have HG := Lib.hid hG
  clear hG ha hb
  go_enter Tryd.func4, Tryd.ntmps4
  go_wp2_with fail
  obtain ⟨t1, t2, t3, t4⟩ := three_new (w := w) (⟨(m : Int), c.v, c.x⟩ : Rb) ⟨n, a.v, a.x⟩ ⟨n, b.v, b.x⟩
  generalize (((w.alloc (Obj.cells #[Value.int IntKind.i64 m, Value.int IntKind.u64 (U c.v), Value.int IntKind.u64 (U c.x)] 24)).alloc (Obj.cells #[Value.int IntKind.i64 n, Value.int IntKind.u64 (U a.v), Value.int IntKind.u64 (U a.x)] 24)).alloc (Obj.cells #[Value.int IntKind.i64 n, Value.int IntKind.u64 (U b.v), Value.int IntKind.u64 (U b.x)] 24)) = w0 at t1 t2 t3 t4 ⊢
  refine (va.out _).mono ?_
  rintro e w1 ⟨rfl, hb⟩
  replace t1 := t1.below hb
  replace t2 := t2.below hb
  replace t3 := t3.below hb
  replace t4 := t4.trans (hb.mono t4.size)
  clear hb
  obtain ⟨a0, a1, a2, af⟩ := id t2
  obtain ⟨b0, b1, b2, bf⟩ := id t3
  go_wp2_with fail
  clear a0 a1 a2 af b0 b1 b2 bf
  refine (vb.out _).mono ?_
  rintro e w2 ⟨rfl, hb⟩
  replace t1 := t1.below hb
  replace t2 := t2.below hb
  replace t3 := t3.below hb
  replace t4 := t4.trans (hb.mono t4.size)
  clear hb
  obtain ⟨a0, a1, a2, af⟩ := id t2
  obtain ⟨b0, b1, b2, bf⟩ := id t3
  go_wp2_with fail
  clear a0 a1 a2 af b0 b1 b2 bf
  have C := cb_new (c := (⟨(m : Int), c.v, c.x⟩ : Rb)) (a := ⟨(n : Int), a.v, a.x⟩) (b := ⟨(n : Int), b.v, b.x⟩) t1 t2 t3 t4
  generalize w2.heap.size = g at C ⊢
  generalize ((w2.alloc (Obj.cells #[Value.int IntKind.i64 0, Value.int IntKind.u64 0, Value.int IntKind.u64 0] 24)).alloc (Obj.cells #[Value.int IntKind.i64 0, Value.int IntKind.u64 0, Value.int IntKind.u64 0] 24)) = W at C ⊢
  clear t1 t2 t3 t4
  obtain ⟨⟨c0, c1, c2, cf⟩, ⟨a0, a1, a2, af⟩, ⟨b0, b1, b2, bf⟩, ⟨h0, h1, h2, hf⟩, ⟨r0, r1, r2, rf⟩, hlt, hlo⟩ := id C
  have gc0 := cell_regrown c0
  have gc1 := cell_regrown c1
  have gc2 := cell_regrown c2
  have ga0 := cell_regrown a0
  have ga1 := cell_regrown a1
  have ga2 := cell_regrown a2
  have gb0 := cell_regrown b0
  have gb1 := cell_regrown b1
  have gb2 := cell_regrown b2
  have gh0 := cell_regrown h0
  have gh1 := cell_regrown h1
  have gh2 := cell_regrown h2
  have gr0 := cell_regrown r0
  have gr1 := cell_regrown r1
  have gr2 := cell_regrown r2
  refine wp_region_rel 6 (by kernel_rfl) (by kernel_rfl) ?_
  simp only [List.take_succ_cons, List.take_zero, List.drop_succ_cons, List.drop_zero]
  (refine rel_fix0 (fun K hK => ?_); go_simp; refine hK _ ?_; clear hK K)
  refine rel_fact [] (fun v w => Row8 w v (vl a n)) 27 rfl (by simp [Act.put]) (row8_sta _) (by rfl) (by kernel_rfl) (by kernel_rfl) ?_ ?_
  · intro d os
    simp only [relAll]
    go_simp
    exact ret_fact (refV_row n a _ HA.out)
  (refine rel_fix (by kernel_rfl) (by kernel_rfl) (fun K hK => ?_); go_simp; refine hK _ ?_; clear hK K)
  refine rel_fact [] (fun v w => Row8 w v (vl b n)) 29 rfl (by simp [Act.put]) (row8_sta _) (by rfl) (by kernel_rfl) (by kernel_rfl) ?_ ?_
  · intro d os
    simp only [relAll]
    go_simp
    exact ret_fact (refV_row n b _ HB.out)
  refine rel_fact [(29, _), (27, _)] (fun v w => Row8 w v (List.zipWith resB (vl a n) (vl b n))) 30 rfl (by simp [Act.put]) (row8_sta _) (by rfl) (by kernel_rfl) (by kernel_rfl) ?_ ?_
  · intro d os
    simp only [relAll]
    rintro v2 h2' v1 h1'
    go_simp
    exact ret_fact (resolved_any _ _ _ _ (by rw [vl_len, vl_len]) (by rw [vl_len]; omega) _ h1' h2')
  refine rel_use [(30, _)] (.agg #[.int .i64 n, .int .u64 (U rr.v), .int .u64 (U rr.x)]) (by rfl) (by kernel_rfl) (by kernel_rfl) ?_ ?_
  · intro d os
    simp only [relAll]
    rintro v3 h3'
    go_simp
    exact ret_fix (refB_is _ _ _ HRV.out (by rw [List.length_zipWith, vl_len, vl_len]; omega) _ h3')
  refine rel_nil ?_
  intro d os
  simp only [relAll]
  rintro v3 - v2 - v1 -
  clear gc0 gc1 gc2 ga0 ga1 ga2 gb0 gb1 gb2 gh0 gh1 gh2 gr0 gr1 gr2 c0 c1 c2 a0 a1 a2 b0 b1 b2 h0 h1 h2 r0 r1 r2
  replace C := C.below (below_regrown W d os)
  generalize grow (redrawn W d) os = W4 at C ⊢
  clear hlt hlo cf af bf hf rf
  obtain ⟨⟨c0, c1, c2, cf⟩, ⟨a0, a1, a2, af⟩, ⟨b0, b1, b2, bf⟩, ⟨h0, h1, h2, hf⟩, ⟨r0, r1, r2, rf⟩, hlt, hlo⟩ := id C
  go_wp2_with fail
  replace C := C.putr n (U rr.v) (U rr.x)
  clear c0 c1 c2 cf a0 a1 a2 af b0 b1 b2 bf h0 h1 hf r0 r1 r2 rf hlt hlo
  generalize (((W4.setCell ⟨g + 1, 0, none⟩ (.int .i64 n)).setCell ⟨g + 1, 1, none⟩ (.int .u64 (U rr.v))).setCell ⟨g + 1, 2, none⟩ (.int .u64 (U rr.x))) = W5 at C ⊢
  obtain ⟨⟨c0, c1, c2, cf⟩, ⟨a0, a1, a2, af⟩, ⟨b0, b1, b2, bf⟩, ⟨h0, h1, h2, hf⟩, ⟨r0, r1, r2, rf⟩, hlt, hlo⟩ := id C
  go_wp2_with fail
  refine (vc.out _).mono ?_
  rintro e W6 ⟨rfl, hb⟩
  replace C := C.below hb
  clear hb c0 c1 c2 cf a0 a1 a2 af b0 b1 b2 bf h0 h1 h2 hf r0 r1 r2 rf hlt hlo
  obtain ⟨⟨c0, c1, c2, cf⟩, ⟨a0, a1, a2, af⟩, ⟨b0, b1, b2, bf⟩, ⟨h0, h1, h2, hf⟩, ⟨r0, r1, r2, rf⟩, hlt, hlo⟩ := id C
  go_wp2_with fail
  have gc0 := cell_regrown c0
  have gc1 := cell_regrown c1
  have gc2 := cell_regrown c2
  have ga0 := cell_regrown a0
  have ga1 := cell_regrown a1
  have ga2 := cell_regrown a2
  have gb0 := cell_regrown b0
  have gb1 := cell_regrown b1
  have gb2 := cell_regrown b2
  have gh0 := cell_regrown h0
  have gh1 := cell_regrown h1
  have gh2 := cell_regrown h2
  have gr0 := cell_regrown r0
  have gr1 := cell_regrown r1
  have gr2 := cell_regrown r2
  have hcl : (choL (vl ⟨c.v, c.x⟩ m) (vl a n) (vl b n)).length ≤ 1000000 := HCL.out
  refine wp_region_rel 8 (by kernel_rfl) (by kernel_rfl) ?_
  simp only [List.take_succ_cons, List.take_zero, List.drop_succ_cons, List.drop_zero]
  (refine rel_fix0 (fun K hK => ?_); go_simp; refine hK _ ?_; clear hK K)
  refine rel_fact [] (fun v w => Row8 w v (vl ⟨c.v, c.x⟩ m)) 38 rfl (by simp [Act.put]) (row8_sta _) (by rfl) (by kernel_rfl) (by kernel_rfl) ?_ ?_
  · intro d os
    simp only [relAll]
    go_simp
    exact ret_fact (refV_row m ⟨c.v, c.x⟩ _ HC.out)
  (refine rel_fix (by kernel_rfl) (by kernel_rfl) (fun K hK => ?_); go_simp; refine hK _ ?_; clear hK K)
  refine rel_fact [] (fun v w => Row8 w v (vl a n)) 40 rfl (by simp [Act.put]) (row8_sta _) (by rfl) (by kernel_rfl) (by kernel_rfl) ?_ ?_
  · intro d os
    simp only [relAll]
    go_simp
    exact ret_fact (refV_row n a _ HA.out)
  (refine rel_fix (by kernel_rfl) (by kernel_rfl) (fun K hK => ?_); go_simp; refine hK _ ?_; clear hK K)
  refine rel_fact [] (fun v w => Row8 w v (vl b n)) 42 rfl (by simp [Act.put]) (row8_sta _) (by rfl) (by kernel_rfl) (by kernel_rfl) ?_ ?_
  · intro d os
    simp only [relAll]
    go_simp
    exact ret_fact (refV_row n b _ HB.out)
  refine rel_fact [(42, _), (40, _), (38, _)] (fun v w => Row8 w v (choL (vl ⟨c.v, c.x⟩ m) (vl a n) (vl b n))) 43 rfl (by simp [Act.put]) (row8_sta _) (by rfl) (by kernel_rfl) (by kernel_rfl) ?_ ?_
  · intro d os
    simp only [relAll]
    rintro v3 h3' v2 h2' v1 h1'
    go_simp
    exact ret_fact (chosen_any _ _ _ _ _ _ (by rw [vl_len, vl_len]) (by rw [vl_len]; omega) (by rw [vl_len]; omega) _ h1' h2' h3')
  refine rel_use [(43, _)] (.agg #[.int .i64 n, .int .u64 (U rc.v), .int .u64 (U rc.x)]) (by rfl) (by kernel_rfl) (by kernel_rfl) ?_ ?_
  · intro d os
    simp only [relAll]
    rintro v4 h4'
    go_simp
    exact ret_fix (refB_is _ _ _ HCV.out hcl _ h4')
  refine rel_nil ?_
  intro d os
  simp only [relAll]
  rintro v4 - v3 - v2 - v1 -
  clear gc0 gc1 gc2 ga0 ga1 ga2 gb0 gb1 gb2 gh0 gh1 gh2 gr0 gr1 gr2 c0 c1 c2 a0 a1 a2 b0 b1 b2 h0 h1 h2 r0 r1 r2
  replace C := C.below (below_regrown W6 d os)
  generalize grow (redrawn W6 d) os = W7 at C ⊢
  clear hlt hlo cf af bf hf rf hcl
  obtain ⟨⟨c0, c1, c2, cf⟩, ⟨a0, a1, a2, af⟩, ⟨b0, b1, b2, bf⟩, ⟨h0, h1, h2, hf⟩, ⟨r0, r1, r2, rf⟩, hlt, hlo⟩ := id C
  go_wp2_with fail
  replace C := C.puth n (U rc.v) (U rc.x)
  clear c0 c1 c2 cf a0 a1 a2 af b0 b1 b2 bf h0 h1 hf r0 r1 r2 rf hlt hlo
  generalize (((W7.setCell ⟨g, 0, none⟩ (.int .i64 n)).setCell ⟨g, 1, none⟩ (.int .u64 (U rc.v))).setCell ⟨g, 2, none⟩ (.int .u64 (U rc.x))) = W8 at C ⊢
  obtain ⟨⟨c0, c1, c2, cf⟩, ⟨a0, a1, a2, af⟩, ⟨b0, b1, b2, bf⟩, ⟨h0, h1, h2, hf⟩, ⟨r0, r1, r2, rf⟩, hlt, hlo⟩ := id C
  go_wp2_with fail
  have HW := Lib.hid (HG.out.here hlo)
  have gc0 := cell_regrown c0
  have gc1 := cell_regrown c1
  have gc2 := cell_regrown c2
  have ga0 := cell_regrown a0
  have ga1 := cell_regrown a1
  have ga2 := cell_regrown a2
  have gb0 := cell_regrown b0
  have gb1 := cell_regrown b1
  have gb2 := cell_regrown b2
  have gh0 := cell_regrown h0
  have gh1 := cell_regrown h1
  have gh2 := cell_regrown h2
  have gr0 := cell_regrown r0
  have gr1 := cell_regrown r1
  have gr2 := cell_regrown r2
  refine wp_region_rel 33 (by kernel_rfl) (by kernel_rfl) ?_
  simp only [List.take_succ_cons, List.take_zero, List.drop_succ_cons, List.drop_zero]
  (refine rel_fix0 (fun K hK => ?_); go_simp; apply Exists.intro; refine ⟨fun _ _ => ?_, hK _ ?_⟩; (with_reducible exact ret_fix (vectors_ok _ (HW.out.here (below_regrown _ _ _)))); clear hK K)
  (refine rel_fix0 (fun K hK => ?_); go_simp; refine hK _ ?_; clear hK K)
  (refine rel_fix0 (fun K hK => ?_); go_simp; refine hK _ ?_; clear hK K)
  (refine rel_fix0 (fun K hK => ?_); go_simp; refine hK _ ?_; clear hK K)
  (refine rel_fix0 (fun K hK => ?_); go_simp; refine hK _ ?_; clear hK K)
  (refine rel_fix0 (fun K hK => ?_); go_simp; apply Exists.intro; refine ⟨fun _ _ => ?_, hK _ ?_⟩; (with_reducible exact ret_fix (HFit.out _)); clear hK K)
  (refine rel_fix0 (fun K hK => ?_); go_simp; refine hK _ ?_; clear hK K)
  (refine rel_fix0 (fun K hK => ?_); go_simp; refine hK _ ?_; clear hK K)
  (refine rel_fix0 (fun K hK => ?_); go_simp; refine hK _ ?_; clear hK K)
  refine rel_fact [] (fun v w => Row8 w v (vl a n)) 54 rfl (by simp [Act.put]) (row8_sta _) (by rfl) (by kernel_rfl) (by kernel_rfl) ?_ ?_
  · intro d os
    simp only [relAll]
    go_simp
    exact ret_fact (refV_row n a _ HA.out)
  (refine rel_fix (by kernel_rfl) (by kernel_rfl) (fun K hK => ?_); go_simp; refine hK _ ?_; clear hK K)
  refine rel_fact [] (fun v w => Row8 w v (vl b n)) 56 rfl (by simp [Act.put]) (row8_sta _) (by rfl) (by kernel_rfl) (by kernel_rfl) ?_ ?_
  · intro d os
    simp only [relAll]
    go_simp
    exact ret_fact (refV_row n b _ HB.out)
  (refine rel_fix (by kernel_rfl) (by kernel_rfl) (fun K hK => ?_); go_simp; refine hK _ ?_; clear hK K)
  refine rel_use [(56, _), (54, _)] (.bool vf) (by rfl) (by kernel_rfl) (by kernel_rfl) ?_ ?_
  · intro d os
    simp only [relAll]
    rintro v2 h2' v1 h1'
    go_simp
    exact ret_fix (refFit_any kind _ _ _ _ (by rw [vl_len, vl_len]) (by rw [vl_len]; omega) HK.out _ h1' h2') |> fun h => by rw [HFV.out] at h; exact h
  (refine rel_fix (by kernel_rfl) (by kernel_rfl) (fun K hK => ?_); go_simp; refine hK _ ?_; clear hK K)
  (refine rel_fix (by kernel_rfl) (by kernel_rfl) (fun K hK => ?_); go_simp; refine hK _ ?_; clear hK K)
  (refine rel_fix (by kernel_rfl) (by kernel_rfl) (fun K hK => ?_); go_simp; refine hK _ ?_; clear hK K)
  (refine rel_fix (by kernel_rfl) (by kernel_rfl) (fun K hK => ?_); go_simp; refine hK _ ?_; clear hK K)
  (refine rel_fix (by kernel_rfl) (by kernel_rfl) (fun K hK => ?_); go_simp; refine hK _ ?_; clear hK K)
  (refine rel_fix (by kernel_rfl) (by kernel_rfl) (fun K hK => ?_); go_simp; refine hK _ ?_; clear hK K)
  (refine rel_fix (by kernel_rfl) (by kernel_rfl) (fun K hK => ?_); go_simp; apply Exists.intro; refine ⟨fun _ _ => ?_, hK _ ?_⟩; (with_reducible exact ret_fix (HRes.out _)); clear hK K)
  (refine rel_fix (by kernel_rfl) (by kernel_rfl) (fun K hK => ?_); go_simp; refine hK _ ?_; clear hK K)
  (refine rel_fix (by kernel_rfl) (by kernel_rfl) (fun K hK => ?_); go_simp; refine hK _ ?_; clear hK K)
  (refine rel_fix (by kernel_rfl) (by kernel_rfl) (fun K hK => ?_); go_simp; refine hK _ ?_; clear hK K)
  (refine rel_fix (by kernel_rfl) (by kernel_rfl) (fun K hK => ?_); go_simp; refine hK _ ?_; clear hK K)
  (refine rel_fix (by kernel_rfl) (by kernel_rfl) (fun K hK => ?_); go_simp; refine hK _ ?_; clear hK K)
  (refine rel_fix (by kernel_rfl) (by kernel_rfl) (fun K hK => ?_); go_simp; refine hK _ ?_; clear hK K)
  (refine rel_fix (by kernel_rfl) (by kernel_rfl) (fun K hK => ?_); go_simp; refine hK _ ?_; clear hK K)
  (refine rel_fix (by kernel_rfl) (by kernel_rfl) (fun K hK => ?_); go_simp; apply Exists.intro; refine ⟨fun _ _ => ?_, hK _ ?_⟩; (with_reducible exact ret_fix (HCnd.out _)); clear hK K)
  (refine rel_fix (by kernel_rfl) (by kernel_rfl) (fun K hK => ?_); go_simp; refine hK _ ?_; clear hK K)
  (refine rel_fix (by kernel_rfl) (by kernel_rfl) (fun K hK => ?_); go_simp; refine hK _ ?_; clear hK K)
  (refine rel_fix (by kernel_rfl) (by kernel_rfl) (fun K hK => ?_); go_simp; refine hK _ ?_; clear hK K)
  (refine rel_fix (by kernel_rfl) (by kernel_rfl) (fun K hK => ?_); go_simp; refine hK _ ?_; clear hK K)
  refine rel_nil ?_
  intro d os
  simp only [relAll]
  rintro v2 - v1 -
  clear gc0 gc1 gc2 ga0 ga1 ga2 gb0 gb1 gb2 gh0 gh1 gh2 gr0 gr1 gr2 c0 c1 c2 a0 a1 a2 b0 b1 b2 h0 h1 h2 r0 r1 r2
  have hb9 := hlo.trans ((below_regrown W8 d os).mono hlo.size)
  generalize grow (redrawn W8 d) os = W9 at hb9 ⊢
  go_wp2_with fail
  go_ret
  exact ⟨rfl, hb9⟩
set_option maxRecDepth 100000 in
set_option maxHeartbeats 4000000 in
theorem chosen_xi {B : Nat} (n : Nat) (c : Rb) (a b : Vx) (kind : Int) (w : World) (hG : Glob B w) (ha : a.ok n) (hb : b.ok n) (hc : c.okB = false) (hk0 : kind ≠ 0) (hk1 : kind ≠ 1) (hk2 : kind ≠ 2) : Calls Tryd.prog 4 #[.agg #[.int .i64 c.W, .int .u64 (U c.v), .int .u64 (U c.x)], .agg #[.int .i64 n, .int .u64 (U a.v), .int .u64 (U a.x)], .agg #[.int .i64 n, .int .u64 (U b.v), .int .u64 (U b.x)], .int .i64 kind] w fun e w' => e = .returned (.bool true) ∧ Below w.heap.size w w' := by
  have hhi := ha.hi
  have HA := Lib.hid ha
  have HB := Lib.hid hb
  have va := Lib.hid fun w => valid_is ⟨(n : Int), a.v, a.x⟩ true (Rb.okB_of ha) w
  have vb := Lib.hid fun w => valid_is ⟨(n : Int), b.v, b.x⟩ true (Rb.okB_of hb) w
  have vc := Lib.hid fun w => valid_is c false hc w
  have HFit := Lib.hid fun w => fits_ok n a b kind w ha hb
  have HRes := Lib.hid fun w => resolve_ok n a b w ha hb
  have HRV := Lib.hid (Bl_map (vres_ok ha hb) (res_vl a b ha.hi))
  have HCnd := Lib.hid fun w => cond_ill c ⟨(n : Int), a.v, a.x⟩ ⟨(n : Int), b.v, b.x⟩ w hc
  clear hc
  generalize vres a b = rr at HRes HRV
  have HFV : Hid (vfits a b kind = false) := by show _ = _; unfold vfits; rw [if_neg hk0, if_neg hk1, if_neg hk2]
  rw [HFV.out] at HFit
  have k0 := Lib.hid (show (kind != 0) = true by simpa using hk0)
  have k1 := Lib.hid (show (kind != 1) = true by simpa using hk1)
  have k2 := Lib.hid (show (kind != 2) = true by simpa using hk2)
  clear hk0 hk1 hk2 HFV
  have HG := Lib.hid hG
  clear hG ha hb
  go_enter Tryd.func4, Tryd.ntmps4
  go_wp2_with fail
  obtain ⟨t1, t2, t3, t4⟩ := three_new (w := w) c ⟨n, a.v, a.x⟩ ⟨n, b.v, b.x⟩
  generalize (((w.alloc (Obj.cells #[Value.int IntKind.i64 c.W, Value.int IntKind.u64 (U c.v), Value.int IntKind.u64 (U c.x)] 24)).alloc (Obj.cells #[Value.int IntKind.i64 n, Value.int IntKind.u64 (U a.v), Value.int IntKind.u64 (U a.x)] 24)).alloc (Obj.cells #[Value.int IntKind.i64 n, Value.int IntKind.u64 (U b.v), Value.int IntKind.u64 (U b.x)] 24)) = w0 at t1 t2 t3 t4 ⊢
  refine (va.out _).mono ?_
  rintro e w1 ⟨rfl, hb⟩
  replace t1 := t1.below hb
  replace t2 := t2.below hb
  replace t3 := t3.below hb
  replace t4 := t4.trans (hb.mono t4.size)
  clear hb
  obtain ⟨a0, a1, a2, af⟩ := id t2
  obtain ⟨b0, b1, b2, bf⟩ := id t3
  go_wp2_with fail
  clear a0 a1 a2 af b0 b1 b2 bf
  refine (vb.out _).mono ?_
  rintro e w2 ⟨rfl, hb⟩
  replace t1 := t1.below hb
  replace t2 := t2.below hb
  replace t3 := t3.below hb
  replace t4 := t4.trans (hb.mono t4.size)
  clear hb
  obtain ⟨a0, a1, a2, af⟩ := id t2
  obtain ⟨b0, b1, b2, bf⟩ := id t3
  go_wp2_with fail
  clear a0 a1 a2 af b0 b1 b2 bf
  have C := cb_new (c := c) (a := ⟨(n : Int), a.v, a.x⟩) (b := ⟨(n : Int), b.v, b.x⟩) t1 t2 t3 t4
  generalize w2.heap.size = g at C ⊢
  generalize ((w2.alloc (Obj.cells #[Value.int IntKind.i64 0, Value.int IntKind.u64 0, Value.int IntKind.u64 0] 24)).alloc (Obj.cells #[Value.int IntKind.i64 0, Value.int IntKind.u64 0, Value.int IntKind.u64 0] 24)) = W at C ⊢
  clear t1 t2 t3 t4
  obtain ⟨⟨c0, c1, c2, cf⟩, ⟨a0, a1, a2, af⟩, ⟨b0, b1, b2, bf⟩, ⟨h0, h1, h2, hf⟩, ⟨r0, r1, r2, rf⟩, hlt, hlo⟩ := id C
  have gc0 := cell_regrown c0
  have gc1 := cell_regrown c1
  have gc2 := cell_regrown c2
  have ga0 := cell_regrown a0
  have ga1 := cell_regrown a1
  have ga2 := cell_regrown a2
  have gb0 := cell_regrown b0
  have gb1 := cell_regrown b1
  have gb2 := cell_regrown b2
  have gh0 := cell_regrown h0
  have gh1 := cell_regrown h1
  have gh2 := cell_regrown h2
  have gr0 := cell_regrown r0
  have gr1 := cell_regrown r1
  have gr2 := cell_regrown r2
  refine wp_region_rel 6 (by kernel_rfl) (by kernel_rfl) ?_
  simp only [List.take_succ_cons, List.take_zero, List.drop_succ_cons, List.drop_zero]
  (refine rel_fix0 (fun K hK => ?_); go_simp; refine hK _ ?_; clear hK K)
  refine rel_fact [] (fun v w => Row8 w v (vl a n)) 27 rfl (by simp [Act.put]) (row8_sta _) (by rfl) (by kernel_rfl) (by kernel_rfl) ?_ ?_
  · intro d os
    simp only [relAll]
    go_simp
    exact ret_fact (refV_row n a _ HA.out)
  (refine rel_fix (by kernel_rfl) (by kernel_rfl) (fun K hK => ?_); go_simp; refine hK _ ?_; clear hK K)
  refine rel_fact [] (fun v w => Row8 w v (vl b n)) 29 rfl (by simp [Act.put]) (row8_sta _) (by rfl) (by kernel_rfl) (by kernel_rfl) ?_ ?_
  · intro d os
    simp only [relAll]
    go_simp
    exact ret_fact (refV_row n b _ HB.out)
  refine rel_fact [(29, _), (27, _)] (fun v w => Row8 w v (List.zipWith resB (vl a n) (vl b n))) 30 rfl (by simp [Act.put]) (row8_sta _) (by rfl) (by kernel_rfl) (by kernel_rfl) ?_ ?_
  · intro d os
    simp only [relAll]
    rintro v2 h2' v1 h1'
    go_simp
    exact ret_fact (resolved_any _ _ _ _ (by rw [vl_len, vl_len]) (by rw [vl_len]; omega) _ h1' h2')
  refine rel_use [(30, _)] (.agg #[.int .i64 n, .int .u64 (U rr.v), .int .u64 (U rr.x)]) (by rfl) (by kernel_rfl) (by kernel_rfl) ?_ ?_
  · intro d os
    simp only [relAll]
    rintro v3 h3'
    go_simp
    exact ret_fix (refB_is _ _ _ HRV.out (by rw [List.length_zipWith, vl_len, vl_len]; omega) _ h3')
  refine rel_nil ?_
  intro d os
  simp only [relAll]
  rintro v3 - v2 - v1 -
  clear gc0 gc1 gc2 ga0 ga1 ga2 gb0 gb1 gb2 gh0 gh1 gh2 gr0 gr1 gr2 c0 c1 c2 a0 a1 a2 b0 b1 b2 h0 h1 h2 r0 r1 r2
  replace C := C.below (below_regrown W d os)
  generalize grow (redrawn W d) os = W4 at C ⊢
  clear hlt hlo cf af bf hf rf
  obtain ⟨⟨c0, c1, c2, cf⟩, ⟨a0, a1, a2, af⟩, ⟨b0, b1, b2, bf⟩, ⟨h0, h1, h2, hf⟩, ⟨r0, r1, r2, rf⟩, hlt, hlo⟩ := id C
  go_wp2_with fail
  replace C := C.putr n (U rr.v) (U rr.x)
  clear c0 c1 c2 cf a0 a1 a2 af b0 b1 b2 bf h0 h1 hf r0 r1 r2 rf hlt hlo
  generalize (((W4.setCell ⟨g + 1, 0, none⟩ (.int .i64 n)).setCell ⟨g + 1, 1, none⟩ (.int .u64 (U rr.v))).setCell ⟨g + 1, 2, none⟩ (.int .u64 (U rr.x))) = W5 at C ⊢
  obtain ⟨⟨c0, c1, c2, cf⟩, ⟨a0, a1, a2, af⟩, ⟨b0, b1, b2, bf⟩, ⟨h0, h1, h2, hf⟩, ⟨r0, r1, r2, rf⟩, hlt, hlo⟩ := id C
  go_wp2_with fail
  refine (vc.out _).mono ?_
  rintro e W6 ⟨rfl, hb⟩
  replace C := C.below hb
  clear hb c0 c1 c2 cf a0 a1 a2 af b0 b1 b2 bf h0 h1 h2 hf r0 r1 r2 rf hlt hlo
  obtain ⟨⟨c0, c1, c2, cf⟩, ⟨a0, a1, a2, af⟩, ⟨b0, b1, b2, bf⟩, ⟨h0, h1, h2, hf⟩, ⟨r0, r1, r2, rf⟩, hlt, hlo⟩ := id C
  go_wp2_with fail
  have HW := Lib.hid (HG.out.here hlo)
  have gc0 := cell_regrown c0
  have gc1 := cell_regrown c1
  have gc2 := cell_regrown c2
  have ga0 := cell_regrown a0
  have ga1 := cell_regrown a1
  have ga2 := cell_regrown a2
  have gb0 := cell_regrown b0
  have gb1 := cell_regrown b1
  have gb2 := cell_regrown b2
  have gh0 := cell_regrown h0
  have gh1 := cell_regrown h1
  have gh2 := cell_regrown h2
  have gr0 := cell_regrown r0
  have gr1 := cell_regrown r1
  have gr2 := cell_regrown r2
  refine wp_region_rel 33 (by kernel_rfl) (by kernel_rfl) ?_
  simp only [List.take_succ_cons, List.take_zero, List.drop_succ_cons, List.drop_zero]
  (refine rel_fix0 (fun K hK => ?_); go_simp; apply Exists.intro; refine ⟨fun _ _ => ?_, hK _ ?_⟩; (with_reducible exact ret_fix (vectors_ok _ (HW.out.here (below_regrown _ _ _)))); clear hK K)
  (refine rel_fix0 (fun K hK => ?_); go_simp; refine hK _ ?_; clear hK K)
  (refine rel_fix0 (fun K hK => ?_); go_simp; refine hK _ ?_; clear hK K)
  (refine rel_fix0 (fun K hK => ?_); go_simp; refine hK _ ?_; clear hK K)
  (refine rel_fix0 (fun K hK => ?_); go_simp; refine hK _ ?_; clear hK K)
  (refine rel_fix0 (fun K hK => ?_); go_simp; apply Exists.intro; refine ⟨fun _ _ => ?_, hK _ ?_⟩; (with_reducible exact ret_fix (HFit.out _)); clear hK K)
  (refine rel_fix0 (fun K hK => ?_); go_simp; refine hK _ ?_; clear hK K)
  (refine rel_fix0 (fun K hK => ?_); go_simp; refine hK _ ?_; clear hK K)
  (refine rel_fix0 (fun K hK => ?_); go_simp; refine hK _ ?_; clear hK K)
  refine rel_fact [] (fun v w => Row8 w v (vl a n)) 54 rfl (by simp [Act.put]) (row8_sta _) (by rfl) (by kernel_rfl) (by kernel_rfl) ?_ ?_
  · intro d os
    simp only [relAll]
    go_simp
    exact ret_fact (refV_row n a _ HA.out)
  (refine rel_fix (by kernel_rfl) (by kernel_rfl) (fun K hK => ?_); go_simp; refine hK _ ?_; clear hK K)
  refine rel_fact [] (fun v w => Row8 w v (vl b n)) 56 rfl (by simp [Act.put]) (row8_sta _) (by rfl) (by kernel_rfl) (by kernel_rfl) ?_ ?_
  · intro d os
    simp only [relAll]
    go_simp
    exact ret_fact (refV_row n b _ HB.out)
  (refine rel_fix (by kernel_rfl) (by kernel_rfl) (fun K hK => ?_); go_simp; refine hK _ ?_; clear hK K)
  refine rel_use [(56, _), (54, _)] (.bool false) (by rfl) (by kernel_rfl) (by kernel_rfl) ?_ ?_
  · intro d os
    simp only [relAll]
    rintro v2 h2' v1 h1'
    go_simp
    exact ret_fix (refFit_no kind _ _ k0.out k1.out k2.out _)
  (refine rel_fix (by kernel_rfl) (by kernel_rfl) (fun K hK => ?_); go_simp; refine hK _ ?_; clear hK K)
  (refine rel_fix (by kernel_rfl) (by kernel_rfl) (fun K hK => ?_); go_simp; refine hK _ ?_; clear hK K)
  (refine rel_fix (by kernel_rfl) (by kernel_rfl) (fun K hK => ?_); go_simp; refine hK _ ?_; clear hK K)
  (refine rel_fix (by kernel_rfl) (by kernel_rfl) (fun K hK => ?_); go_simp; refine hK _ ?_; clear hK K)
  (refine rel_fix (by kernel_rfl) (by kernel_rfl) (fun K hK => ?_); go_simp; refine hK _ ?_; clear hK K)
  (refine rel_fix (by kernel_rfl) (by kernel_rfl) (fun K hK => ?_); go_simp; refine hK _ ?_; clear hK K)
  (refine rel_fix (by kernel_rfl) (by kernel_rfl) (fun K hK => ?_); go_simp; apply Exists.intro; refine ⟨fun _ _ => ?_, hK _ ?_⟩; (with_reducible exact ret_fix (HRes.out _)); clear hK K)
  (refine rel_fix (by kernel_rfl) (by kernel_rfl) (fun K hK => ?_); go_simp; refine hK _ ?_; clear hK K)
  (refine rel_fix (by kernel_rfl) (by kernel_rfl) (fun K hK => ?_); go_simp; refine hK _ ?_; clear hK K)
  (refine rel_fix (by kernel_rfl) (by kernel_rfl) (fun K hK => ?_); go_simp; refine hK _ ?_; clear hK K)
  (refine rel_fix (by kernel_rfl) (by kernel_rfl) (fun K hK => ?_); go_simp; refine hK _ ?_; clear hK K)
  (refine rel_fix (by kernel_rfl) (by kernel_rfl) (fun K hK => ?_); go_simp; refine hK _ ?_; clear hK K)
  (refine rel_fix (by kernel_rfl) (by kernel_rfl) (fun K hK => ?_); go_simp; refine hK _ ?_; clear hK K)
  (refine rel_fix (by kernel_rfl) (by kernel_rfl) (fun K hK => ?_); go_simp; refine hK _ ?_; clear hK K)
  (refine rel_fix (by kernel_rfl) (by kernel_rfl) (fun K hK => ?_); go_simp; apply Exists.intro; refine ⟨fun _ _ => ?_, hK _ ?_⟩; (with_reducible exact ret_fix (HCnd.out _)); clear hK K)
  (refine rel_fix (by kernel_rfl) (by kernel_rfl) (fun K hK => ?_); go_simp; refine hK _ ?_; clear hK K)
  (refine rel_fix (by kernel_rfl) (by kernel_rfl) (fun K hK => ?_); go_simp; refine hK _ ?_; clear hK K)
  (refine rel_fix (by kernel_rfl) (by kernel_rfl) (fun K hK => ?_); go_simp; refine hK _ ?_; clear hK K)
  (refine rel_fix (by kernel_rfl) (by kernel_rfl) (fun K hK => ?_); go_simp; refine hK _ ?_; clear hK K)
  refine rel_nil ?_
  intro d os
  simp only [relAll]
  rintro v2 - v1 -
  clear gc0 gc1 gc2 ga0 ga1 ga2 gb0 gb1 gb2 gh0 gh1 gh2 gr0 gr1 gr2 c0 c1 c2 a0 a1 a2 b0 b1 b2 h0 h1 h2 r0 r1 r2
  have hb9 := hlo.trans ((below_regrown W6 d os).mono hlo.size)
  generalize grow (redrawn W6 d) os = W9 at hb9 ⊢
  go_wp2_with fail
  go_ret
  exact ⟨rfl, hb9⟩
set_option maxRecDepth 100000 in
set_option maxHeartbeats 4000000 in
theorem chosen_xk {B : Nat} (n m : Nat) (c : Rb) (a b : Vx) (kind : Int) (w : World) (hG : Glob B w) (ha : a.ok n) (hb : b.ok n) (hc : Ok m c.v c.x) (hk0 : kind ≠ 0) (hk1 : kind ≠ 1) (hk2 : kind ≠ 2) : Calls Tryd.prog 4 #[.agg #[.int .i64 m, .int .u64 (U c.v), .int .u64 (U c.x)], .agg #[.int .i64 n, .int .u64 (U a.v), .int .u64 (U a.x)], .agg #[.int .i64 n, .int .u64 (U b.v), .int .u64 (U b.x)], .int .i64 kind] w fun e w' => e = .returned (.bool true) ∧ Below w.heap.size w w' := by
  have hhi := ha.hi
  have HA := Lib.hid ha
  have HB := Lib.hid hb
  have va := Lib.hid fun w => valid_is ⟨(n : Int), a.v, a.x⟩ true (Rb.okB_of ha) w
  have vb := Lib.hid fun w => valid_is ⟨(n : Int), b.v, b.x⟩ true (Rb.okB_of hb) w
  have vc := Lib.hid fun w => valid_is (⟨(m : Int), c.v, c.x⟩ : Rb) true (Rb.okB_of hc) w
  have HFit := Lib.hid fun w => fits_ok n a b kind w ha hb
  have HRes := Lib.hid fun w => resolve_ok n a b w ha hb
  have HRV := Lib.hid (Bl_map (vres_ok ha hb) (res_vl a b ha.hi))
  have HCnd := Lib.hid fun w => cond_ok n m ⟨c.v, c.x⟩ a b w hc ha hb
  have HCV := Lib.hid (Bl_map (vcond_ok ⟨c.v, c.x⟩ ha hb) (cho_vl (b := b) hc ha))
  have HC := Lib.hid hc
  have hm2 := hc.hi
  clear hc
  have HCL : Hid ((choL (vl ⟨c.v, c.x⟩ m) (vl a n) (vl b n)).length ≤ 1000000) := by show _ ≤ _; rw [cho_vl HC.out ha, vl_len]; omega
  generalize vcond n ⟨c.v, c.x⟩ a b = rc at HCnd HCV
  generalize vres a b = rr at HRes HRV
  have HFV : Hid (vfits a b kind = false) := by show _ = _; unfold vfits; rw [if_neg hk0, if_neg hk1, if_neg hk2]
  rw [HFV.out] at HFit
  have k0 := Lib.hid (show (kind != 0) = true by simpa using hk0)
  have k1 := Lib.hid (show (kind != 1) = true by simpa using hk1)
  have k2 := Lib.hid (show (kind != 2) = true by simpa using hk2)
  clear hk0 hk1 hk2 HFV
  have HG := Lib.hid hG
  clear hG ha hb
  go_enter Tryd.func4, Tryd.ntmps4
  go_wp2_with fail
  obtain ⟨t1, t2, t3, t4⟩ := three_new (w := w) (⟨(m : Int), c.v, c.x⟩ : Rb) ⟨n, a.v, a.x⟩ ⟨n, b.v, b.x⟩
  generalize (((w.alloc (Obj.cells #[Value.int IntKind.i64 m, Value.int IntKind.u64 (U c.v), Value.int IntKind.u64 (U c.x)] 24)).alloc (Obj.cells #[Value.int IntKind.i64 n, Value.int IntKind.u64 (U a.v), Value.int IntKind.u64 (U a.x)] 24)).alloc (Obj.cells #[Value.int IntKind.i64 n, Value.int IntKind.u64 (U b.v), Value.int IntKind.u64 (U b.x)] 24)) = w0 at t1 t2 t3 t4 ⊢
  refine (va.out _).mono ?_
  rintro e w1 ⟨rfl, hb⟩
  replace t1 := t1.below hb
  replace t2 := t2.below hb
  replace t3 := t3.below hb
  replace t4 := t4.trans (hb.mono t4.size)
  clear hb
  obtain ⟨a0, a1, a2, af⟩ := id t2
  obtain ⟨b0, b1, b2, bf⟩ := id t3
  go_wp2_with fail
  clear a0 a1 a2 af b0 b1 b2 bf
  refine (vb.out _).mono ?_
  rintro e w2 ⟨rfl, hb⟩
  replace t1 := t1.below hb
  replace t2 := t2.below hb
  replace t3 := t3.below hb
  replace t4 := t4.trans (hb.mono t4.size)
  clear hb
  obtain ⟨a0, a1, a2, af⟩ := id t2
  obtain ⟨b0, b1, b2, bf⟩ := id t3
  go_wp2_with fail
  clear a0 a1 a2 af b0 b1 b2 bf
  have C := cb_new (c := (⟨(m : Int), c.v, c.x⟩ : Rb)) (a := ⟨(n : Int), a.v, a.x⟩) (b := ⟨(n : Int), b.v, b.x⟩) t1 t2 t3 t4
  generalize w2.heap.size = g at C ⊢
  generalize ((w2.alloc (Obj.cells #[Value.int IntKind.i64 0, Value.int IntKind.u64 0, Value.int IntKind.u64 0] 24)).alloc (Obj.cells #[Value.int IntKind.i64 0, Value.int IntKind.u64 0, Value.int IntKind.u64 0] 24)) = W at C ⊢
  clear t1 t2 t3 t4
  obtain ⟨⟨c0, c1, c2, cf⟩, ⟨a0, a1, a2, af⟩, ⟨b0, b1, b2, bf⟩, ⟨h0, h1, h2, hf⟩, ⟨r0, r1, r2, rf⟩, hlt, hlo⟩ := id C
  have gc0 := cell_regrown c0
  have gc1 := cell_regrown c1
  have gc2 := cell_regrown c2
  have ga0 := cell_regrown a0
  have ga1 := cell_regrown a1
  have ga2 := cell_regrown a2
  have gb0 := cell_regrown b0
  have gb1 := cell_regrown b1
  have gb2 := cell_regrown b2
  have gh0 := cell_regrown h0
  have gh1 := cell_regrown h1
  have gh2 := cell_regrown h2
  have gr0 := cell_regrown r0
  have gr1 := cell_regrown r1
  have gr2 := cell_regrown r2
  refine wp_region_rel 6 (by kernel_rfl) (by kernel_rfl) ?_
  simp only [List.take_succ_cons, List.take_zero, List.drop_succ_cons, List.drop_zero]
  (refine rel_fix0 (fun K hK => ?_); go_simp; refine hK _ ?_; clear hK K)
  refine rel_fact [] (fun v w => Row8 w v (vl a n)) 27 rfl (by simp [Act.put]) (row8_sta _) (by rfl) (by kernel_rfl) (by kernel_rfl) ?_ ?_
  · intro d os
    simp only [relAll]
    go_simp
    exact ret_fact (refV_row n a _ HA.out)
  (refine rel_fix (by kernel_rfl) (by kernel_rfl) (fun K hK => ?_); go_simp; refine hK _ ?_; clear hK K)
  refine rel_fact [] (fun v w => Row8 w v (vl b n)) 29 rfl (by simp [Act.put]) (row8_sta _) (by rfl) (by kernel_rfl) (by kernel_rfl) ?_ ?_
  · intro d os
    simp only [relAll]
    go_simp
    exact ret_fact (refV_row n b _ HB.out)
  refine rel_fact [(29, _), (27, _)] (fun v w => Row8 w v (List.zipWith resB (vl a n) (vl b n))) 30 rfl (by simp [Act.put]) (row8_sta _) (by rfl) (by kernel_rfl) (by kernel_rfl) ?_ ?_
  · intro d os
    simp only [relAll]
    rintro v2 h2' v1 h1'
    go_simp
    exact ret_fact (resolved_any _ _ _ _ (by rw [vl_len, vl_len]) (by rw [vl_len]; omega) _ h1' h2')
  refine rel_use [(30, _)] (.agg #[.int .i64 n, .int .u64 (U rr.v), .int .u64 (U rr.x)]) (by rfl) (by kernel_rfl) (by kernel_rfl) ?_ ?_
  · intro d os
    simp only [relAll]
    rintro v3 h3'
    go_simp
    exact ret_fix (refB_is _ _ _ HRV.out (by rw [List.length_zipWith, vl_len, vl_len]; omega) _ h3')
  refine rel_nil ?_
  intro d os
  simp only [relAll]
  rintro v3 - v2 - v1 -
  clear gc0 gc1 gc2 ga0 ga1 ga2 gb0 gb1 gb2 gh0 gh1 gh2 gr0 gr1 gr2 c0 c1 c2 a0 a1 a2 b0 b1 b2 h0 h1 h2 r0 r1 r2
  replace C := C.below (below_regrown W d os)
  generalize grow (redrawn W d) os = W4 at C ⊢
  clear hlt hlo cf af bf hf rf
  obtain ⟨⟨c0, c1, c2, cf⟩, ⟨a0, a1, a2, af⟩, ⟨b0, b1, b2, bf⟩, ⟨h0, h1, h2, hf⟩, ⟨r0, r1, r2, rf⟩, hlt, hlo⟩ := id C
  go_wp2_with fail
  replace C := C.putr n (U rr.v) (U rr.x)
  clear c0 c1 c2 cf a0 a1 a2 af b0 b1 b2 bf h0 h1 hf r0 r1 r2 rf hlt hlo
  generalize (((W4.setCell ⟨g + 1, 0, none⟩ (.int .i64 n)).setCell ⟨g + 1, 1, none⟩ (.int .u64 (U rr.v))).setCell ⟨g + 1, 2, none⟩ (.int .u64 (U rr.x))) = W5 at C ⊢
  obtain ⟨⟨c0, c1, c2, cf⟩, ⟨a0, a1, a2, af⟩, ⟨b0, b1, b2, bf⟩, ⟨h0, h1, h2, hf⟩, ⟨r0, r1, r2, rf⟩, hlt, hlo⟩ := id C
  go_wp2_with fail
  refine (vc.out _).mono ?_
  rintro e W6 ⟨rfl, hb⟩
  replace C := C.below hb
  clear hb c0 c1 c2 cf a0 a1 a2 af b0 b1 b2 bf h0 h1 h2 hf r0 r1 r2 rf hlt hlo
  obtain ⟨⟨c0, c1, c2, cf⟩, ⟨a0, a1, a2, af⟩, ⟨b0, b1, b2, bf⟩, ⟨h0, h1, h2, hf⟩, ⟨r0, r1, r2, rf⟩, hlt, hlo⟩ := id C
  go_wp2_with fail
  have gc0 := cell_regrown c0
  have gc1 := cell_regrown c1
  have gc2 := cell_regrown c2
  have ga0 := cell_regrown a0
  have ga1 := cell_regrown a1
  have ga2 := cell_regrown a2
  have gb0 := cell_regrown b0
  have gb1 := cell_regrown b1
  have gb2 := cell_regrown b2
  have gh0 := cell_regrown h0
  have gh1 := cell_regrown h1
  have gh2 := cell_regrown h2
  have gr0 := cell_regrown r0
  have gr1 := cell_regrown r1
  have gr2 := cell_regrown r2
  have hcl : (choL (vl ⟨c.v, c.x⟩ m) (vl a n) (vl b n)).length ≤ 1000000 := HCL.out
  refine wp_region_rel 8 (by kernel_rfl) (by kernel_rfl) ?_
  simp only [List.take_succ_cons, List.take_zero, List.drop_succ_cons, List.drop_zero]
  (refine rel_fix0 (fun K hK => ?_); go_simp; refine hK _ ?_; clear hK K)
  refine rel_fact [] (fun v w => Row8 w v (vl ⟨c.v, c.x⟩ m)) 38 rfl (by simp [Act.put]) (row8_sta _) (by rfl) (by kernel_rfl) (by kernel_rfl) ?_ ?_
  · intro d os
    simp only [relAll]
    go_simp
    exact ret_fact (refV_row m ⟨c.v, c.x⟩ _ HC.out)
  (refine rel_fix (by kernel_rfl) (by kernel_rfl) (fun K hK => ?_); go_simp; refine hK _ ?_; clear hK K)
  refine rel_fact [] (fun v w => Row8 w v (vl a n)) 40 rfl (by simp [Act.put]) (row8_sta _) (by rfl) (by kernel_rfl) (by kernel_rfl) ?_ ?_
  · intro d os
    simp only [relAll]
    go_simp
    exact ret_fact (refV_row n a _ HA.out)
  (refine rel_fix (by kernel_rfl) (by kernel_rfl) (fun K hK => ?_); go_simp; refine hK _ ?_; clear hK K)
  refine rel_fact [] (fun v w => Row8 w v (vl b n)) 42 rfl (by simp [Act.put]) (row8_sta _) (by rfl) (by kernel_rfl) (by kernel_rfl) ?_ ?_
  · intro d os
    simp only [relAll]
    go_simp
    exact ret_fact (refV_row n b _ HB.out)
  refine rel_fact [(42, _), (40, _), (38, _)] (fun v w => Row8 w v (choL (vl ⟨c.v, c.x⟩ m) (vl a n) (vl b n))) 43 rfl (by simp [Act.put]) (row8_sta _) (by rfl) (by kernel_rfl) (by kernel_rfl) ?_ ?_
  · intro d os
    simp only [relAll]
    rintro v3 h3' v2 h2' v1 h1'
    go_simp
    exact ret_fact (chosen_any _ _ _ _ _ _ (by rw [vl_len, vl_len]) (by rw [vl_len]; omega) (by rw [vl_len]; omega) _ h1' h2' h3')
  refine rel_use [(43, _)] (.agg #[.int .i64 n, .int .u64 (U rc.v), .int .u64 (U rc.x)]) (by rfl) (by kernel_rfl) (by kernel_rfl) ?_ ?_
  · intro d os
    simp only [relAll]
    rintro v4 h4'
    go_simp
    exact ret_fix (refB_is _ _ _ HCV.out hcl _ h4')
  refine rel_nil ?_
  intro d os
  simp only [relAll]
  rintro v4 - v3 - v2 - v1 -
  clear gc0 gc1 gc2 ga0 ga1 ga2 gb0 gb1 gb2 gh0 gh1 gh2 gr0 gr1 gr2 c0 c1 c2 a0 a1 a2 b0 b1 b2 h0 h1 h2 r0 r1 r2
  replace C := C.below (below_regrown W6 d os)
  generalize grow (redrawn W6 d) os = W7 at C ⊢
  clear hlt hlo cf af bf hf rf hcl
  obtain ⟨⟨c0, c1, c2, cf⟩, ⟨a0, a1, a2, af⟩, ⟨b0, b1, b2, bf⟩, ⟨h0, h1, h2, hf⟩, ⟨r0, r1, r2, rf⟩, hlt, hlo⟩ := id C
  go_wp2_with fail
  replace C := C.puth n (U rc.v) (U rc.x)
  clear c0 c1 c2 cf a0 a1 a2 af b0 b1 b2 bf h0 h1 hf r0 r1 r2 rf hlt hlo
  generalize (((W7.setCell ⟨g, 0, none⟩ (.int .i64 n)).setCell ⟨g, 1, none⟩ (.int .u64 (U rc.v))).setCell ⟨g, 2, none⟩ (.int .u64 (U rc.x))) = W8 at C ⊢
  obtain ⟨⟨c0, c1, c2, cf⟩, ⟨a0, a1, a2, af⟩, ⟨b0, b1, b2, bf⟩, ⟨h0, h1, h2, hf⟩, ⟨r0, r1, r2, rf⟩, hlt, hlo⟩ := id C
  go_wp2_with fail
  have HW := Lib.hid (HG.out.here hlo)
  have gc0 := cell_regrown c0
  have gc1 := cell_regrown c1
  have gc2 := cell_regrown c2
  have ga0 := cell_regrown a0
  have ga1 := cell_regrown a1
  have ga2 := cell_regrown a2
  have gb0 := cell_regrown b0
  have gb1 := cell_regrown b1
  have gb2 := cell_regrown b2
  have gh0 := cell_regrown h0
  have gh1 := cell_regrown h1
  have gh2 := cell_regrown h2
  have gr0 := cell_regrown r0
  have gr1 := cell_regrown r1
  have gr2 := cell_regrown r2
  refine wp_region_rel 33 (by kernel_rfl) (by kernel_rfl) ?_
  simp only [List.take_succ_cons, List.take_zero, List.drop_succ_cons, List.drop_zero]
  (refine rel_fix0 (fun K hK => ?_); go_simp; apply Exists.intro; refine ⟨fun _ _ => ?_, hK _ ?_⟩; (with_reducible exact ret_fix (vectors_ok _ (HW.out.here (below_regrown _ _ _)))); clear hK K)
  (refine rel_fix0 (fun K hK => ?_); go_simp; refine hK _ ?_; clear hK K)
  (refine rel_fix0 (fun K hK => ?_); go_simp; refine hK _ ?_; clear hK K)
  (refine rel_fix0 (fun K hK => ?_); go_simp; refine hK _ ?_; clear hK K)
  (refine rel_fix0 (fun K hK => ?_); go_simp; refine hK _ ?_; clear hK K)
  (refine rel_fix0 (fun K hK => ?_); go_simp; apply Exists.intro; refine ⟨fun _ _ => ?_, hK _ ?_⟩; (with_reducible exact ret_fix (HFit.out _)); clear hK K)
  (refine rel_fix0 (fun K hK => ?_); go_simp; refine hK _ ?_; clear hK K)
  (refine rel_fix0 (fun K hK => ?_); go_simp; refine hK _ ?_; clear hK K)
  (refine rel_fix0 (fun K hK => ?_); go_simp; refine hK _ ?_; clear hK K)
  refine rel_fact [] (fun v w => Row8 w v (vl a n)) 54 rfl (by simp [Act.put]) (row8_sta _) (by rfl) (by kernel_rfl) (by kernel_rfl) ?_ ?_
  · intro d os
    simp only [relAll]
    go_simp
    exact ret_fact (refV_row n a _ HA.out)
  (refine rel_fix (by kernel_rfl) (by kernel_rfl) (fun K hK => ?_); go_simp; refine hK _ ?_; clear hK K)
  refine rel_fact [] (fun v w => Row8 w v (vl b n)) 56 rfl (by simp [Act.put]) (row8_sta _) (by rfl) (by kernel_rfl) (by kernel_rfl) ?_ ?_
  · intro d os
    simp only [relAll]
    go_simp
    exact ret_fact (refV_row n b _ HB.out)
  (refine rel_fix (by kernel_rfl) (by kernel_rfl) (fun K hK => ?_); go_simp; refine hK _ ?_; clear hK K)
  refine rel_use [(56, _), (54, _)] (.bool false) (by rfl) (by kernel_rfl) (by kernel_rfl) ?_ ?_
  · intro d os
    simp only [relAll]
    rintro v2 h2' v1 h1'
    go_simp
    exact ret_fix (refFit_no kind _ _ k0.out k1.out k2.out _)
  (refine rel_fix (by kernel_rfl) (by kernel_rfl) (fun K hK => ?_); go_simp; refine hK _ ?_; clear hK K)
  (refine rel_fix (by kernel_rfl) (by kernel_rfl) (fun K hK => ?_); go_simp; refine hK _ ?_; clear hK K)
  (refine rel_fix (by kernel_rfl) (by kernel_rfl) (fun K hK => ?_); go_simp; refine hK _ ?_; clear hK K)
  (refine rel_fix (by kernel_rfl) (by kernel_rfl) (fun K hK => ?_); go_simp; refine hK _ ?_; clear hK K)
  (refine rel_fix (by kernel_rfl) (by kernel_rfl) (fun K hK => ?_); go_simp; refine hK _ ?_; clear hK K)
  (refine rel_fix (by kernel_rfl) (by kernel_rfl) (fun K hK => ?_); go_simp; refine hK _ ?_; clear hK K)
  (refine rel_fix (by kernel_rfl) (by kernel_rfl) (fun K hK => ?_); go_simp; apply Exists.intro; refine ⟨fun _ _ => ?_, hK _ ?_⟩; (with_reducible exact ret_fix (HRes.out _)); clear hK K)
  (refine rel_fix (by kernel_rfl) (by kernel_rfl) (fun K hK => ?_); go_simp; refine hK _ ?_; clear hK K)
  (refine rel_fix (by kernel_rfl) (by kernel_rfl) (fun K hK => ?_); go_simp; refine hK _ ?_; clear hK K)
  (refine rel_fix (by kernel_rfl) (by kernel_rfl) (fun K hK => ?_); go_simp; refine hK _ ?_; clear hK K)
  (refine rel_fix (by kernel_rfl) (by kernel_rfl) (fun K hK => ?_); go_simp; refine hK _ ?_; clear hK K)
  (refine rel_fix (by kernel_rfl) (by kernel_rfl) (fun K hK => ?_); go_simp; refine hK _ ?_; clear hK K)
  (refine rel_fix (by kernel_rfl) (by kernel_rfl) (fun K hK => ?_); go_simp; refine hK _ ?_; clear hK K)
  (refine rel_fix (by kernel_rfl) (by kernel_rfl) (fun K hK => ?_); go_simp; refine hK _ ?_; clear hK K)
  (refine rel_fix (by kernel_rfl) (by kernel_rfl) (fun K hK => ?_); go_simp; apply Exists.intro; refine ⟨fun _ _ => ?_, hK _ ?_⟩; (with_reducible exact ret_fix (HCnd.out _)); clear hK K)
  (refine rel_fix (by kernel_rfl) (by kernel_rfl) (fun K hK => ?_); go_simp; refine hK _ ?_; clear hK K)
  (refine rel_fix (by kernel_rfl) (by kernel_rfl) (fun K hK => ?_); go_simp; refine hK _ ?_; clear hK K)
  (refine rel_fix (by kernel_rfl) (by kernel_rfl) (fun K hK => ?_); go_simp; refine hK _ ?_; clear hK K)
  (refine rel_fix (by kernel_rfl) (by kernel_rfl) (fun K hK => ?_); go_simp; refine hK _ ?_; clear hK K)
  refine rel_nil ?_
  intro d os
  simp only [relAll]
  rintro v2 - v1 -
  clear gc0 gc1 gc2 ga0 ga1 ga2 gb0 gb1 gb2 gh0 gh1 gh2 gr0 gr1 gr2 c0 c1 c2 a0 a1 a2 b0 b1 b2 h0 h1 h2 r0 r1 r2
  have hb9 := hlo.trans ((below_regrown W8 d os).mono hlo.size)
  generalize grow (redrawn W8 d) os = W9 at hb9 ⊢
  go_wp2_with fail
  go_ret
  exact ⟨rfl, hb9⟩
theorem bitsChosen_any {B : Nat} (c a b : Rb) (kind : Int) (w : World) (hG : Glob B w) : Calls Tryd.prog 4 #[.agg #[.int .i64 c.W, .int .u64 (U c.v), .int .u64 (U c.x)], .agg #[.int .i64 a.W, .int .u64 (U a.v), .int .u64 (U a.x)], .agg #[.int .i64 b.W, .int .u64 (U b.v), .int .u64 (U b.x)], .int .i64 kind] w fun e w' => e = .returned (.bool true) ∧ Below w.heap.size w w' := by
  cases ha : a.okB
  · exact chosen_a c a b kind w hG ha (by unfold alikeB; rw [ha]; rfl)
  cases hb : b.okB
  · exact chosen_b c a b kind w hG ha hb (by unfold alikeB; rw [hb]; simp)
  by_cases hw : a.W = b.W
  · obtain ⟨n, en, on⟩ := Rb.ok_of ha
    obtain ⟨m, em, om⟩ := Rb.ok_of hb
    have hnm : n = m := by omega
    subst hnm
    rw [en, em]
    cases hc : c.okB
    · by_cases hk : kind = 0 ∨ kind = 1 ∨ kind = 2
      · exact chosen_ci n c ⟨a.v, a.x⟩ ⟨b.v, b.x⟩ kind w hG on om hc hk
      · exact chosen_xi n c ⟨a.v, a.x⟩ ⟨b.v, b.x⟩ kind w hG on om hc (fun e => hk (.inl e)) (fun e => hk (.inr (.inl e))) (fun e => hk (.inr (.inr e)))
    · obtain ⟨k, ek, ok⟩ := Rb.ok_of hc
      rw [ek]
      by_cases hk : kind = 0 ∨ kind = 1 ∨ kind = 2
      · exact chosen_ck n k c ⟨a.v, a.x⟩ ⟨b.v, b.x⟩ kind w hG on om ok hk
      · exact chosen_xk n k c ⟨a.v, a.x⟩ ⟨b.v, b.x⟩ kind w hG on om ok (fun e => hk (.inl e)) (fun e => hk (.inr (.inl e))) (fun e => hk (.inr (.inr e)))
  · exact chosen_w c a b kind w hG ha hb (by simpa using hw) (by unfold alikeB; simp [hw])
end Go.Proofs.YtdpmojkpfnkcdaaDoor
