/- The law BitsChosen: its walk. -/
import Derived.Test.YtdpmojkpfnkcdaaDoorEach
import Derived.Test.YtdpmojkpfnkcdaaDoorRefB2
import Derived.Test.YtdpmojkpfnkcdaaDoorCondP
import Derived.Test.YtdpmojkpfnkcdaaDoorVectors
namespace Go.Proofs.YtdpmojkpfnkcdaaDoor
open Go Go.RowKit Go.Sort
set_option linter.unusedVariables false
theorem vres_ok {n : Nat} {a b : Vx} (h : a.ok n) (k : b.ok n) : (vres a b).ok n :=
  ok_mk h.lo h.hi (sub_or (sub_or (sub_and h.subv) (sub_and k.subv)) (sub_and (sub_or (sub_xor h.subv k.subv) (sub_xor h.subx k.subx)))) (sub_or (sub_or (sub_and h.subx) (sub_and k.subx)) (sub_and (sub_or (sub_xor h.subv k.subv) (sub_xor h.subx k.subx))))
theorem cho_vl {n m : Nat} {c a b : Vx} (hc : c.ok m) (ha : a.ok n) : choL (vl c m) (vl a n) (vl b n) = vl (vcond n c a b) n := by
  unfold choL vcond
  rw [truth_vl hc]
  by_cases h0 : tru c = 0
  · simp [h0]
  · by_cases h1 : tru c = 1
    · simp [h0, h1]
    · simp only [h0, h1, if_false]
      rw [if_neg (by decide), if_neg (by decide)]; exact ch_vl a b ha.hi
/-- what the law's variables hold -/
structure CB (w : World) (g : Nat) (c a b : Rb) (hn hv hx rn rv rx : Int) (W : World) : Prop where
  bc : Box W w.heap.size c.W (U c.v) (U c.x)
  ba : Box W (w.heap.size + 1) a.W (U a.v) (U a.x)
  bb : Box W (w.heap.size + 1 + 1) b.W (U b.v) (U b.x)
  bh : Box W g hn hv hx
  br : Box W (g + 1) rn rv rx
  lt : w.heap.size + 1 + 1 < g
  lo : Below w.heap.size w W
theorem CB.below {w : World} {g : Nat} {c a b : Rb} {hn hv hx rn rv rx : Int} {W W' : World} (h : CB w g c a b hn hv hx rn rv rx W) (hb : Below W.heap.size W W') : CB w g c a b hn hv hx rn rv rx W' :=
  ⟨h.bc.below hb, h.ba.below hb, h.bb.below hb, h.bh.below hb, h.br.below hb, h.lt, h.lo.trans (hb.mono h.lo.size)⟩
theorem CB.putr {w : World} {g : Nat} {c a b : Rb} {hn hv hx rn rv rx : Int} {W : World} (h : CB w g c a b hn hv hx rn rv rx W) (n v x : Int) : CB w g c a b hn hv hx n v x (((W.setCell ⟨g + 1, 0, none⟩ (.int .i64 n)).setCell ⟨g + 1, 1, none⟩ (.int .u64 v)).setCell ⟨g + 1, 2, none⟩ (.int .u64 x)) := by
  have := h.lt
  exact ⟨h.bc.other (by omega) _ _ _, h.ba.other (by omega) _ _ _, h.bb.other (by omega) _ _ _, h.bh.other (by omega) _ _ _, h.br.set _ _ _, h.lt, ((h.lo.setCell (by show w.heap.size ≤ g + 1; omega) _).setCell (by show w.heap.size ≤ g + 1; omega) _).setCell (by show w.heap.size ≤ g + 1; omega) _⟩
theorem CB.puth {w : World} {g : Nat} {c a b : Rb} {hn hv hx rn rv rx : Int} {W : World} (h : CB w g c a b hn hv hx rn rv rx W) (n v x : Int) : CB w g c a b n v x rn rv rx (((W.setCell ⟨g, 0, none⟩ (.int .i64 n)).setCell ⟨g, 1, none⟩ (.int .u64 v)).setCell ⟨g, 2, none⟩ (.int .u64 x)) := by
  have := h.lt
  exact ⟨h.bc.other (by omega) _ _ _, h.ba.other (by omega) _ _ _, h.bb.other (by omega) _ _ _, h.bh.set _ _ _, h.br.other (by omega) _ _ _, h.lt, ((h.lo.setCell (by show w.heap.size ≤ g; omega) _).setCell (by show w.heap.size ≤ g; omega) _).setCell (by show w.heap.size ≤ g; omega) _⟩
/-- two new zero values -/
theorem cb_new {w w1 : World} {c a b : Rb} (bc : Box w1 w.heap.size c.W (U c.v) (U c.x)) (ba : Box w1 (w.heap.size + 1) a.W (U a.v) (U a.x)) (bb : Box w1 (w.heap.size + 1 + 1) b.W (U b.v) (U b.x)) (lo : Below w.heap.size w w1) :
    CB w w1.heap.size c a b 0 0 0 0 0 0 ((w1.alloc (Obj.cells #[Value.int IntKind.i64 0, Value.int IntKind.u64 0, Value.int IntKind.u64 0] 24)).alloc (Obj.cells #[Value.int IntKind.i64 0, Value.int IntKind.u64 0, Value.int IntKind.u64 0] 24)) := by
  have l := bb.lt
  have hb : Below w1.heap.size w1 ((w1.alloc (Obj.cells #[Value.int IntKind.i64 0, Value.int IntKind.u64 0, Value.int IntKind.u64 0] 24)).alloc (Obj.cells #[Value.int IntKind.i64 0, Value.int IntKind.u64 0, Value.int IntKind.u64 0] 24)) := ((Below.refl _ _).alloc (Nat.le_refl _) _).alloc (by simp) _
  exact ⟨bc.below hb, ba.below hb, bb.below hb, ⟨by go_simp, by go_simp, by go_simp, fun o => by go_simp⟩, ⟨by go_simp, by go_simp, by go_simp, fun o => by go_simp⟩, l, lo.trans (hb.mono lo.size)⟩
theorem three_new {w : World} (c a b : Rb) : Box (((w.alloc (Obj.cells #[Value.int IntKind.i64 c.W, Value.int IntKind.u64 (U c.v), Value.int IntKind.u64 (U c.x)] 24)).alloc (Obj.cells #[Value.int IntKind.i64 a.W, Value.int IntKind.u64 (U a.v), Value.int IntKind.u64 (U a.x)] 24)).alloc (Obj.cells #[Value.int IntKind.i64 b.W, Value.int IntKind.u64 (U b.v), Value.int IntKind.u64 (U b.x)] 24)) w.heap.size c.W (U c.v) (U c.x) ∧ Box (((w.alloc (Obj.cells #[Value.int IntKind.i64 c.W, Value.int IntKind.u64 (U c.v), Value.int IntKind.u64 (U c.x)] 24)).alloc (Obj.cells #[Value.int IntKind.i64 a.W, Value.int IntKind.u64 (U a.v), Value.int IntKind.u64 (U a.x)] 24)).alloc (Obj.cells #[Value.int IntKind.i64 b.W, Value.int IntKind.u64 (U b.v), Value.int IntKind.u64 (U b.x)] 24)) (w.heap.size + 1) a.W (U a.v) (U a.x) ∧ Box (((w.alloc (Obj.cells #[Value.int IntKind.i64 c.W, Value.int IntKind.u64 (U c.v), Value.int IntKind.u64 (U c.x)] 24)).alloc (Obj.cells #[Value.int IntKind.i64 a.W, Value.int IntKind.u64 (U a.v), Value.int IntKind.u64 (U a.x)] 24)).alloc (Obj.cells #[Value.int IntKind.i64 b.W, Value.int IntKind.u64 (U b.v), Value.int IntKind.u64 (U b.x)] 24)) (w.heap.size + 1 + 1) b.W (U b.v) (U b.x) ∧ Below w.heap.size w (((w.alloc (Obj.cells #[Value.int IntKind.i64 c.W, Value.int IntKind.u64 (U c.v), Value.int IntKind.u64 (U c.x)] 24)).alloc (Obj.cells #[Value.int IntKind.i64 a.W, Value.int IntKind.u64 (U a.v), Value.int IntKind.u64 (U a.x)] 24)).alloc (Obj.cells #[Value.int IntKind.i64 b.W, Value.int IntKind.u64 (U b.v), Value.int IntKind.u64 (U b.x)] 24)) := by
  refine ⟨⟨by go_simp, by go_simp, by go_simp, fun o => by go_simp⟩, ⟨by go_simp, by go_simp, by go_simp, fun o => by go_simp⟩, ⟨by go_simp, by go_simp, by go_simp, fun o => by go_simp⟩, (((Below.refl _ _).alloc (Nat.le_refl _) _).alloc (by simp) _).alloc (by simp; omega) _⟩
theorem valid_is (r : Rb) (t : Bool) (h : r.okB = t) (w : World) : Calls Tryd.prog 9 #[.agg #[.int .i64 r.W, .int .u64 (U r.v), .int .u64 (U r.x)]] w fun e w' => e = .returned (.bool t) ∧ Below w.heap.size w w' := by
  rw [← h]; exact refValid_any r w
theorem cond_zero (c a b : Rb) (w : World) (h : alikeB a b = false) : Calls Tryd.prog 27 #[.agg #[.int .i64 c.W, .int .u64 (U c.v), .int .u64 (U c.x)], .agg #[.int .i64 a.W, .int .u64 (U a.v), .int .u64 (U a.x)], .agg #[.int .i64 b.W, .int .u64 (U b.v), .int .u64 (U b.x)]] w fun e w' => e = .returned (.agg #[.int .i64 0, .int .u64 0, .int .u64 0]) ∧ Below w.heap.size w w' := by
  cases hc : c.okB
  · exact cond_ill c a b w hc
  · obtain ⟨m, e, o⟩ := Rb.ok_of hc
    rw [e]; exact cond_no m ⟨c.v, c.x⟩ a b w o h
set_option maxRecDepth 100000 in
set_option maxHeartbeats 4000000 in
theorem chosen_a {B : Nat} (c a b : Rb) (kind : Int) (w : World) (hG : Glob B w) (h1 : a.okB = false) (hal : alikeB a b = false) : Calls Tryd.prog 4 #[.agg #[.int .i64 c.W, .int .u64 (U c.v), .int .u64 (U c.x)], .agg #[.int .i64 a.W, .int .u64 (U a.v), .int .u64 (U a.x)], .agg #[.int .i64 b.W, .int .u64 (U b.v), .int .u64 (U b.x)], .int .i64 kind] w fun e w' => e = .returned (.bool true) ∧ Below w.heap.size w w' := by
  have HFit := Lib.hid fun w => fits_no a b kind w hal
  have HRes := Lib.hid fun w => resolve_no a b w hal
  have HCnd := Lib.hid fun w => cond_zero c a b w hal
  have HG := Lib.hid hG
  clear hG hal
  go_enter Tryd.func4, Tryd.ntmps4
  go_wp2_with fail
  obtain ⟨t1, t2, t3, t4⟩ := three_new (w := w) c a b
  generalize (((w.alloc (Obj.cells #[Value.int IntKind.i64 c.W, Value.int IntKind.u64 (U c.v), Value.int IntKind.u64 (U c.x)] 24)).alloc (Obj.cells #[Value.int IntKind.i64 a.W, Value.int IntKind.u64 (U a.v), Value.int IntKind.u64 (U a.x)] 24)).alloc (Obj.cells #[Value.int IntKind.i64 b.W, Value.int IntKind.u64 (U b.v), Value.int IntKind.u64 (U b.x)] 24)) = w0 at t1 t2 t3 t4 ⊢
  refine (valid_is a false h1 _).mono ?_
  rintro e w1 ⟨rfl, hb⟩
  replace t1 := t1.below hb
  replace t2 := t2.below hb
  replace t3 := t3.below hb
  replace t4 := t4.trans (hb.mono t4.size)
  clear hb
  obtain ⟨a0, a1, a2, af⟩ := id t2
  obtain ⟨b0, b1, b2, bf⟩ := id t3
  go_wp2_with fail
  clear a0 a1 a2 af b0 b1 b2 bf
  have C := cb_new t1 t2 t3 t4
  generalize w1.heap.size = g at C ⊢
  generalize ((w1.alloc (Obj.cells #[Value.int IntKind.i64 0, Value.int IntKind.u64 0, Value.int IntKind.u64 0] 24)).alloc (Obj.cells #[Value.int IntKind.i64 0, Value.int IntKind.u64 0, Value.int IntKind.u64 0] 24)) = W at C ⊢
  clear t1 t2 t3 t4
  obtain ⟨⟨c0, c1, c2, cf⟩, ⟨a0, a1, a2, af⟩, ⟨b0, b1, b2, bf⟩, ⟨h0, h1, h2, hf⟩, ⟨r0, r1, r2, rf⟩, hlt, hlo⟩ := id C
  have HW := Lib.hid (HG.out.here hlo)
  have gc0 := cell_regrown c0
  have gc1 := cell_regrown c1
  have gc2 := cell_regrown c2
  have ga0 := cell_regrown a0
  have ga1 := cell_regrown a1
  have ga2 := cell_regrown a2
  have gb0 := cell_regrown b0
  have gb1 := cell_regrown b1
  have gb2 := cell_regrown b2
  have gh0 := cell_regrown h0
  have gh1 := cell_regrown h1
  have gh2 := cell_regrown h2
  have gr0 := cell_regrown r0
  have gr1 := cell_regrown r1
  have gr2 := cell_regrown r2
  refine wp_region_rel 33 (by kernel_rfl) (by kernel_rfl) ?_
  simp only [List.take_succ_cons, List.take_zero, List.drop_succ_cons, List.drop_zero]
  (refine rel_fix0 (fun K hK => ?_); go_simp; apply Exists.intro; refine ⟨fun _ _ => ?_, hK _ ?_⟩; (with_reducible exact ret_fix (vectors_ok _ (HW.out.here (below_regrown _ _ _)))); clear hK K)
  (refine rel_fix0 (fun K hK => ?_); go_simp; refine hK _ ?_; clear hK K)
  (refine rel_fix0 (fun K hK => ?_); go_simp; refine hK _ ?_; clear hK K)
  (refine rel_fix0 (fun K hK => ?_); go_simp; refine hK _ ?_; clear hK K)
  (refine rel_fix0 (fun K hK => ?_); go_simp; refine hK _ ?_; clear hK K)
  (refine rel_fix0 (fun K hK => ?_); go_simp; apply Exists.intro; refine ⟨fun _ _ => ?_, hK _ ?_⟩; (with_reducible exact ret_fix (HFit.out _)); clear hK K)
  (refine rel_fix0 (fun K hK => ?_); go_simp; refine hK _ ?_; clear hK K)
  (refine rel_fix0 (fun K hK => ?_); go_simp; refine hK _ ?_; clear hK K)
  (refine rel_fix0 (fun K hK => ?_); go_simp; refine hK _ ?_; clear hK K)
  (refine rel_fix0 (fun K hK => ?_); go_simp; refine hK _ ?_; clear hK K)
  (refine rel_fix0 (fun K hK => ?_); go_simp; refine hK _ ?_; clear hK K)
  (refine rel_fix0 (fun K hK => ?_); go_simp; refine hK _ ?_; clear hK K)
  (refine rel_fix0 (fun K hK => ?_); go_simp; refine hK _ ?_; clear hK K)
  (refine rel_fix0 (fun K hK => ?_); go_simp; refine hK _ ?_; clear hK K)
  (refine rel_fix0 (fun K hK => ?_); go_simp; refine hK _ ?_; clear hK K)
  (refine rel_fix0 (fun K hK => ?_); go_simp; refine hK _ ?_; clear hK K)
  (refine rel_fix0 (fun K hK => ?_); go_simp; refine hK _ ?_; clear hK K)
  (refine rel_fix0 (fun K hK => ?_); go_simp; refine hK _ ?_; clear hK K)
  (refine rel_fix0 (fun K hK => ?_); go_simp; refine hK _ ?_; clear hK K)
  (refine rel_fix0 (fun K hK => ?_); go_simp; refine hK _ ?_; clear hK K)
  (refine rel_fix0 (fun K hK => ?_); go_simp; apply Exists.intro; refine ⟨fun _ _ => ?_, hK _ ?_⟩; (with_reducible exact ret_fix (HRes.out _)); clear hK K)
  (refine rel_fix0 (fun K hK => ?_); go_simp; refine hK _ ?_; clear hK K)
  (refine rel_fix0 (fun K hK => ?_); go_simp; refine hK _ ?_; clear hK K)
  (refine rel_fix0 (fun K hK => ?_); go_simp; refine hK _ ?_; clear hK K)
  (refine rel_fix0 (fun K hK => ?_); go_simp; refine hK _ ?_; clear hK K)
  (refine rel_fix0 (fun K hK => ?_); go_simp; refine hK _ ?_; clear hK K)
  (refine rel_fix0 (fun K hK => ?_); go_simp; refine hK _ ?_; clear hK K)
  (refine rel_fix0 (fun K hK => ?_); go_simp; refine hK _ ?_; clear hK K)
  (refine rel_fix0 (fun K hK => ?_); go_simp; apply Exists.intro; refine ⟨fun _ _ => ?_, hK _ ?_⟩; (with_reducible exact ret_fix (HCnd.out _)); clear hK K)
  (refine rel_fix0 (fun K hK => ?_); go_simp; refine hK _ ?_; clear hK K)
  (refine rel_fix0 (fun K hK => ?_); go_simp; refine hK _ ?_; clear hK K)
  (refine rel_fix0 (fun K hK => ?_); go_simp; refine hK _ ?_; clear hK K)
  (refine rel_fix0 (fun K hK => ?_); go_simp; refine hK _ ?_; clear hK K)
  refine rel_nil ?_
  intro d os
  simp only [relAll]
  clear gc0 gc1 gc2 ga0 ga1 ga2 gb0 gb1 gb2 gh0 gh1 gh2 gr0 gr1 gr2 c0 c1 c2 a0 a1 a2 b0 b1 b2 h0 h1 h2 r0 r1 r2
  have hb9 := hlo.trans ((below_regrown W d os).mono hlo.size)
  generalize grow (redrawn W d) os = W9 at hb9 ⊢
  go_wp2_with fail
  go_ret
  exact ⟨rfl, hb9⟩
set_option maxRecDepth 100000 in
set_option maxHeartbeats 4000000 in
theorem chosen_b {B : Nat} (c a b : Rb) (kind : Int) (w : World) (hG : Glob B w) (h1 : a.okB = true) (h2 : b.okB = false) (hal : alikeB a b = false) : Calls Tryd.prog 4 #[.agg #[.int .i64 c.W, .int .u64 (U c.v), .int .u64 (U c.x)], .agg #[.int .i64 a.W, .int .u64 (U a.v), .int .u64 (U a.x)], .agg #[.int .i64 b.W, .int .u64 (U b.v), .int .u64 (U b.x)], .int .i64 kind] w fun e w' => e = .returned (.bool true) ∧ Below w.heap.size w w' := by
  have HFit := Lib.hid fun w => fits_no a b kind w hal
  have HRes := Lib.hid fun w => resolve_no a b w hal
  have HCnd := Lib.hid fun w => cond_zero c a b w hal
  have HG := Lib.hid hG
  clear hG hal
  go_enter Tryd.func4, Tryd.ntmps4
  go_wp2_with fail
  obtain ⟨t1, t2, t3, t4⟩ := three_new (w := w) c a b
  generalize (((w.alloc (Obj.cells #[Value.int IntKind.i64 c.W, Value.int IntKind.u64 (U c.v), Value.int IntKind.u64 (U c.x)] 24)).alloc (Obj.cells #[Value.int IntKind.i64 a.W, Value.int IntKind.u64 (U a.v), Value.int IntKind.u64 (U a.x)] 24)).alloc (Obj.cells #[Value.int IntKind.i64 b.W, Value.int IntKind.u64 (U b.v), Value.int IntKind.u64 (U b.x)] 24)) = w0 at t1 t2 t3 t4 ⊢
  refine (valid_is a true h1 _).mono ?_
  rintro e w1 ⟨rfl, hb⟩
  replace t1 := t1.below hb
  replace t2 := t2.below hb
  replace t3 := t3.below hb
  replace t4 := t4.trans (hb.mono t4.size)
  clear hb
  obtain ⟨a0, a1, a2, af⟩ := id t2
  obtain ⟨b0, b1, b2, bf⟩ := id t3
  go_wp2_with fail
  clear a0 a1 a2 af b0 b1 b2 bf
  refine (valid_is b false h2 _).mono ?_
  rintro e w2 ⟨rfl, hb⟩
  replace t1 := t1.below hb
  replace t2 := t2.below hb
  replace t3 := t3.below hb
  replace t4 := t4.trans (hb.mono t4.size)
  clear hb
  obtain ⟨a0, a1, a2, af⟩ := id t2
  obtain ⟨b0, b1, b2, bf⟩ := id t3
  go_wp2_with fail
  clear a0 a1 a2 af b0 b1 b2 bf
  have C := cb_new t1 t2 t3 t4
  generalize w2.heap.size = g at C ⊢
  generalize ((w2.alloc (Obj.cells #[Value.int IntKind.i64 0, Value.int IntKind.u64 0, Value.int IntKind.u64 0] 24)).alloc (Obj.cells #[Value.int IntKind.i64 0, Value.int IntKind.u64 0, Value.int IntKind.u64 0] 24)) = W at C ⊢
  clear t1 t2 t3 t4
  obtain ⟨⟨c0, c1, c2, cf⟩, ⟨a0, a1, a2, af⟩, ⟨b0, b1, b2, bf⟩, ⟨h0, h1, h2, hf⟩, ⟨r0, r1, r2, rf⟩, hlt, hlo⟩ := id C
  have HW := Lib.hid (HG.out.here hlo)
  have gc0 := cell_regrown c0
  have gc1 := cell_regrown c1
  have gc2 := cell_regrown c2
  have ga0 := cell_regrown a0
  have ga1 := cell_regrown a1
  have ga2 := cell_regrown a2
  have gb0 := cell_regrown b0
  have gb1 := cell_regrown b1
  have gb2 := cell_regrown b2
  have gh0 := cell_regrown h0
  have gh1 := cell_regrown h1
  have gh2 := cell_regrown h2
  have gr0 := cell_regrown r0
  have gr1 := cell_regrown r1
  have gr2 := cell_regrown r2
  refine wp_region_rel 33 (by kernel_rfl) (by kernel_rfl) ?_
  simp only [List.take_succ_cons, List.take_zero, List.drop_succ_cons, List.drop_zero]
  (refine rel_fix0 (fun K hK => ?_); go_simp; apply Exists.intro; refine ⟨fun _ _ => ?_, hK _ ?_⟩; (with_reducible exact ret_fix (vectors_ok _ (HW.out.here (below_regrown _ _ _)))); clear hK K)
  (refine rel_fix0 (fun K hK => ?_); go_simp; refine hK _ ?_; clear hK K)
  (refine rel_fix0 (fun K hK => ?_); go_simp; refine hK _ ?_; clear hK K)
  (refine rel_fix0 (fun K hK => ?_); go_simp; refine hK _ ?_; clear hK K)
  (refine rel_fix0 (fun K hK => ?_); go_simp; refine hK _ ?_; clear hK K)
  (refine rel_fix0 (fun K hK => ?_); go_simp; apply Exists.intro; refine ⟨fun _ _ => ?_, hK _ ?_⟩; (with_reducible exact ret_fix (HFit.out _)); clear hK K)
  (refine rel_fix0 (fun K hK => ?_); go_simp; refine hK _ ?_; clear hK K)
  (refine rel_fix0 (fun K hK => ?_); go_simp; refine hK _ ?_; clear hK K)
  (refine rel_fix0 (fun K hK => ?_); go_simp; refine hK _ ?_; clear hK K)
  (refine rel_fix0 (fun K hK => ?_); go_simp; refine hK _ ?_; clear hK K)
  (refine rel_fix0 (fun K hK => ?_); go_simp; refine hK _ ?_; clear hK K)
  (refine rel_fix0 (fun K hK => ?_); go_simp; refine hK _ ?_; clear hK K)
  (refine rel_fix0 (fun K hK => ?_); go_simp; refine hK _ ?_; clear hK K)
  (refine rel_fix0 (fun K hK => ?_); go_simp; refine hK _ ?_; clear hK K)
  (refine rel_fix0 (fun K hK => ?_); go_simp; refine hK _ ?_; clear hK K)
  (refine rel_fix0 (fun K hK => ?_); go_simp; refine hK _ ?_; clear hK K)
  (refine rel_fix0 (fun K hK => ?_); go_simp; refine hK _ ?_; clear hK K)
  (refine rel_fix0 (fun K hK => ?_); go_simp; refine hK _ ?_; clear hK K)
  (refine rel_fix0 (fun K hK => ?_); go_simp; refine hK _ ?_; clear hK K)
  (refine rel_fix0 (fun K hK => ?_); go_simp; refine hK _ ?_; clear hK K)
  (refine rel_fix0 (fun K hK => ?_); go_simp; apply Exists.intro; refine ⟨fun _ _ => ?_, hK _ ?_⟩; (with_reducible exact ret_fix (HRes.out _)); clear hK K)
  (refine rel_fix0 (fun K hK => ?_); go_simp; refine hK _ ?_; clear hK K)
  (refine rel_fix0 (fun K hK => ?_); go_simp; refine hK _ ?_; clear hK K)
  (refine rel_fix0 (fun K hK => ?_); go_simp; refine hK _ ?_; clear hK K)
  (refine rel_fix0 (fun K hK => ?_); go_simp; refine hK _ ?_; clear hK K)
  (refine rel_fix0 (fun K hK => ?_); go_simp; refine hK _ ?_; clear hK K)
  (refine rel_fix0 (fun K hK => ?_); go_simp; refine hK _ ?_; clear hK K)
  (refine rel_fix0 (fun K hK => ?_); go_simp; refine hK _ ?_; clear hK K)
  (refine rel_fix0 (fun K hK => ?_); go_simp; apply Exists.intro; refine ⟨fun _ _ => ?_, hK _ ?_⟩; (with_reducible exact ret_fix (HCnd.out _)); clear hK K)
  (refine rel_fix0 (fun K hK => ?_); go_simp; refine hK _ ?_; clear hK K)
  (refine rel_fix0 (fun K hK => ?_); go_simp; refine hK _ ?_; clear hK K)
  (refine rel_fix0 (fun K hK => ?_); go_simp; refine hK _ ?_; clear hK K)
  (refine rel_fix0 (fun K hK => ?_); go_simp; refine hK _ ?_; clear hK K)
  refine rel_nil ?_
  intro d os
  simp only [relAll]
  clear gc0 gc1 gc2 ga0 ga1 ga2 gb0 gb1 gb2 gh0 gh1 gh2 gr0 gr1 gr2 c0 c1 c2 a0 a1 a2 b0 b1 b2 h0 h1 h2 r0 r1 r2
  have hb9 := hlo.trans ((below_regrown W d os).mono hlo.size)
  generalize grow (redrawn W d) os = W9 at hb9 ⊢
  go_wp2_with fail
  go_ret
  exact ⟨rfl, hb9⟩
set_option maxRecDepth 100000 in
set_option maxHeartbeats 4000000 in
theorem chosen_w {B : Nat} (c a b : Rb) (kind : Int) (w : World) (hG : Glob B w) (h1 : a.okB = true) (h2 : b.okB = true) (hne : (a.W == b.W) = false) (hal : alikeB a b = false) : Calls Tryd.prog 4 #[.agg #[.int .i64 c.W, .int .u64 (U c.v), .int .u64 (U c.x)], .agg #[.int .i64 a.W, .int .u64 (U a.v), .int .u64 (U a.x)], .agg #[.int .i64 b.W, .int .u64 (U b.v), .int .u64 (U b.x)], .int .i64 kind] w fun e w' => e = .returned (.bool true) ∧ Below w.heap.size w w' := by
  have HFit := Lib.hid fun w => fits_no a b kind w hal
  have HRes := Lib.hid fun w => resolve_no a b w hal
  have HCnd := Lib.hid fun w => cond_zero c a b w hal
  have HG := Lib.hid hG
  clear hG hal
  go_enter Tryd.func4, Tryd.ntmps4
  go_wp2_with fail
  obtain ⟨t1, t2, t3, t4⟩ := three_new (w := w) c a b
  generalize (((w.alloc (Obj.cells #[Value.int IntKind.i64 c.W, Value.int IntKind.u64 (U c.v), Value.int IntKind.u64 (U c.x)] 24)).alloc (Obj.cells #[Value.int IntKind.i64 a.W, Value.int IntKind.u64 (U a.v), Value.int IntKind.u64 (U a.x)] 24)).alloc (Obj.cells #[Value.int IntKind.i64 b.W, Value.int IntKind.u64 (U b.v), Value.int IntKind.u64 (U b.x)] 24)) = w0 at t1 t2 t3 t4 ⊢
  refine (valid_is a true h1 _).mono ?_
  rintro e w1 ⟨rfl, hb⟩
  replace t1 := t1.below hb
  replace t2 := t2.below hb
  replace t3 := t3.below hb
  replace t4 := t4.trans (hb.mono t4.size)
  clear hb
  obtain ⟨a0, a1, a2, af⟩ := id t2
  obtain ⟨b0, b1, b2, bf⟩ := id t3
  go_wp2_with fail
  clear a0 a1 a2 af b0 b1 b2 bf
  refine (valid_is b true h2 _).mono ?_
  rintro e w2 ⟨rfl, hb⟩
  replace t1 := t1.below hb
  replace t2 := t2.below hb
  replace t3 := t3.below hb
  replace t4 := t4.trans (hb.mono t4.size)
  clear hb
  obtain ⟨a0, a1, a2, af⟩ := id t2
  obtain ⟨b0, b1, b2, bf⟩ := id t3
  go_wp2_with fail
  clear a0 a1 a2 af b0 b1 b2 bf
  have C := cb_new t1 t2 t3 t4
  generalize w2.heap.size = g at C ⊢
  generalize ((w2.alloc (Obj.cells #[Value.int IntKind.i64 0, Value.int IntKind.u64 0, Value.int IntKind.u64 0] 24)).alloc (Obj.cells #[Value.int IntKind.i64 0, Value.int IntKind.u64 0, Value.int IntKind.u64 0] 24)) = W at C ⊢
  clear t1 t2 t3 t4
  obtain ⟨⟨c0, c1, c2, cf⟩, ⟨a0, a1, a2, af⟩, ⟨b0, b1, b2, bf⟩, ⟨h0, h1, h2, hf⟩, ⟨r0, r1, r2, rf⟩, hlt, hlo⟩ := id C
  have HW := Lib.hid (HG.out.here hlo)
  have gc0 := cell_regrown c0
  have gc1 := cell_regrown c1
  have gc2 := cell_regrown c2
  have ga0 := cell_regrown a0
  have ga1 := cell_regrown a1
  have ga2 := cell_regrown a2
  have gb0 := cell_regrown b0
  have gb1 := cell_regrown b1
  have gb2 := cell_regrown b2
  have gh0 := cell_regrown h0
  have gh1 := cell_regrown h1
  have gh2 := cell_regrown h2
  have gr0 := cell_regrown r0
  have gr1 := cell_regrown r1
  have gr2 := cell_regrown r2
  refine wp_region_rel 33 (by kernel_rfl) (by kernel_rfl) ?_
  simp only [List.take_succ_cons, List.take_zero, List.drop_succ_cons, List.drop_zero]
  (refine rel_fix0 (fun K hK => ?_); go_simp; apply Exists.intro; refine ⟨fun _ _ => ?_, hK _ ?_⟩; (with_reducible exact ret_fix (vectors_ok _ (HW.out.here (below_regrown _ _ _)))); clear hK K)
  (refine rel_fix0 (fun K hK => ?_); go_simp; refine hK _ ?_; clear hK K)
  (refine rel_fix0 (fun K hK => ?_); go_simp; refine hK _ ?_; clear hK K)
  (refine rel_fix0 (fun K hK => ?_); go_simp; refine hK _ ?_; clear hK K)
  (refine rel_fix0 (fun K hK => ?_); go_simp; refine hK _ ?_; clear hK K)
  (refine rel_fix0 (fun K hK => ?_); go_simp; apply Exists.intro; refine ⟨fun _ _ => ?_, hK _ ?_⟩; (with_reducible exact ret_fix (HFit.out _)); clear hK K)
  (refine rel_fix0 (fun K hK => ?_); go_simp; refine hK _ ?_; clear hK K)
  (refine rel_fix0 (fun K hK => ?_); go_simp; refine hK _ ?_; clear hK K)
  (refine rel_fix0 (fun K hK => ?_); go_simp; refine hK _ ?_; clear hK K)
  (refine rel_fix0 (fun K hK => ?_); go_simp; refine hK _ ?_; clear hK K)
  (refine rel_fix0 (fun K hK => ?_); go_simp; refine hK _ ?_; clear hK K)
  (refine rel_fix0 (fun K hK => ?_); go_simp; refine hK _ ?_; clear hK K)
  (refine rel_fix0 (fun K hK => ?_); go_simp; refine hK _ ?_; clear hK K)
  (refine rel_fix0 (fun K hK => ?_); go_simp; refine hK _ ?_; clear hK K)
  (refine rel_fix0 (fun K hK => ?_); go_simp; refine hK _ ?_; clear hK K)
  (refine rel_fix0 (fun K hK => ?_); go_simp; refine hK _ ?_; clear hK K)
  (refine rel_fix0 (fun K hK => ?_); go_simp; refine hK _ ?_; clear hK K)
  (refine rel_fix0 (fun K hK => ?_); go_simp; refine hK _ ?_; clear hK K)
  (refine rel_fix0 (fun K hK => ?_); go_simp; refine hK _ ?_; clear hK K)
  (refine rel_fix0 (fun K hK => ?_); go_simp; refine hK _ ?_; clear hK K)
  (refine rel_fix0 (fun K hK => ?_); go_simp; apply Exists.intro; refine ⟨fun _ _ => ?_, hK _ ?_⟩; (with_reducible exact ret_fix (HRes.out _)); clear hK K)
  (refine rel_fix0 (fun K hK => ?_); go_simp; refine hK _ ?_; clear hK K)
  (refine rel_fix0 (fun K hK => ?_); go_simp; refine hK _ ?_; clear hK K)
  (refine rel_fix0 (fun K hK => ?_); go_simp; refine hK _ ?_; clear hK K)
  (refine rel_fix0 (fun K hK => ?_); go_simp; refine hK _ ?_; clear hK K)
  (refine rel_fix0 (fun K hK => ?_); go_simp; refine hK _ ?_; clear hK K)
  (refine rel_fix0 (fun K hK => ?_); go_simp; refine hK _ ?_; clear hK K)
  (refine rel_fix0 (fun K hK => ?_); go_simp; refine hK _ ?_; clear hK K)
  (refine rel_fix0 (fun K hK => ?_); go_simp; apply Exists.intro; refine ⟨fun _ _ => ?_, hK _ ?_⟩; (with_reducible exact ret_fix (HCnd.out _)); clear hK K)
  (refine rel_fix0 (fun K hK => ?_); go_simp; refine hK _ ?_; clear hK K)
  (refine rel_fix0 (fun K hK => ?_); go_simp; refine hK _ ?_; clear hK K)
  (refine rel_fix0 (fun K hK => ?_); go_simp; refine hK _ ?_; clear hK K)
  (refine rel_fix0 (fun K hK => ?_); go_simp; refine hK _ ?_; clear hK K)
  refine rel_nil ?_
  intro d os
  simp only [relAll]
  clear gc0 gc1 gc2 ga0 ga1 ga2 gb0 gb1 gb2 gh0 gh1 gh2 gr0 gr1 gr2 c0 c1 c2 a0 a1 a2 b0 b1 b2 h0 h1 h2 r0 r1 r2
  have hb9 := hlo.trans ((below_regrown W d os).mono hlo.size)
  generalize grow (redrawn W d) os = W9 at hb9 ⊢
  go_wp2_with fail
  go_ret
  exact ⟨rfl, hb9⟩
end Go.Proofs.YtdpmojkpfnkcdaaDoor
