/- Parts of vectors that are valid: what the program returns. -/
import Derived.Test.YtdpmojkpfnkcdaaDoorParts
import Derived.Test.YtdpmojkpfnkcdaaDoorOps3
import Derived.Test.YtdpmojkpfnkcdaaDoorPut3
import Derived.StillTailTactics
namespace Go.Proofs.YtdpmojkpfnkcdaaDoor
open Go Go.RowKit
set_option linter.unusedVariables false
theorem neg_wrap (k : Nat) (h : k ≤ 1000000) : IntKind.u64.wrap (-IntKind.u64.wrap (-(k : Int))) = (k : Int) := by
  rw [IntKind.wrap_u64, IntKind.wrap_u64]; omega
set_option maxHeartbeats 400000 in
theorem up_dn (v : BitVec 64) (k : Nat) (w : World) (h1 : 1 ≤ k) (h : k ≤ 1000000) : Calls Tryd.prog 60 #[.int .u64 (U v), .int .i64 (-(k : Int))] w fun e w' => e = .returned (.int .u64 (U (v >>> k))) ∧ w' = w := by
  have hw := neg_wrap k h
  have hlt : -(k : Int) < 0 := by omega
  go_enter Tryd.func60, Tryd.ntmps60
  go_wp2_with fail
  go_ret
  exact ⟨ret_int (by rw [shr_min]), rfl⟩
theorem extend_q' (n : Nat) (v : BitVec 64) (w : World) (h1 : 1 ≤ n) (h2 : n ≤ 64) : Calls Tryd.prog 45 #[.int .i64 n, .int .u64 (U v)] w fun e w' => e = .returned (.int .i64 (S (ext n v))) ∧ w' = w := (extend_ok n v w h1 h2).mono fun _ _ ⟨a, b⟩ => ⟨a, b.symm⟩
set_option maxRecDepth 100000 in
set_option maxHeartbeats 1000000 in
theorem putd_ok (n m k : Nat) (a p : Vx) (w : World) (ha : a.ok n) (hp : p.ok m) (hn : n ≤ 64) (hm : m ≤ 64) (h1 : 1 ≤ k) (hk : k ≤ 1000000) : Calls Tryd.prog 37 #[.agg #[.int .i64 n, .int .u64 (U a.v), .int .u64 (U a.x)], .int .i64 (-(k : Int)), .agg #[.int .i64 m, .int .u64 (U p.v), .int .u64 (U p.x)]] w fun e w' => e = .returned (.agg #[.int .i64 n, .int .u64 (U (vputd n m a k p).v), .int .u64 (U (vputd n m a k p).x)]) ∧ Below w.heap.size w w' := by
  go_enter Tryd.func37, Tryd.ntmps37
  go_wp2_with fail
  refine (valid_ok n a.v a.x _ ha).mono ?_
  rintro e w1 ⟨rfl, hb1⟩
  obtain ⟨hc1, hf1⟩ := bcell hb1
  have z1_0 : w.heap.size < w1.heap.size := bsize hb1 (by first | omega | (simp <;> omega))
  have z1_1 : w.heap.size + 1 < w1.heap.size := bsize hb1 (by first | omega | (simp <;> omega))
  have z1_2 : w.heap.size + 2 < w1.heap.size := bsize hb1 (by first | omega | (simp <;> omega))
  go_wp2_with fail
  refine (valid_ok m p.v p.x _ hp).mono ?_
  rintro e w2 ⟨rfl, hb2⟩
  obtain ⟨hc2, hf2⟩ := bcell hb2
  have z2_0 : w.heap.size < w2.heap.size := bsize hb2 (by first | omega | (simp <;> omega))
  have z2_1 : w.heap.size + 1 < w2.heap.size := bsize hb2 (by first | omega | (simp <;> omega))
  have z2_2 : w.heap.size + 2 < w2.heap.size := bsize hb2 (by first | omega | (simp <;> omega))
  go_wp2_with fail
  go_quiet (first | (go_at_call 44; exact Calls.quiet_of_same (mask_q _ (by omega) _)) | (go_at_call 60; exact Calls.quiet_of_same (up_dn _ _ _ h1 hk)))
  go_wp2_with fail
  have hb3 := below_drewN (Below.refl w2.heap.size w2) nq
  generalize w2.drewN nq = w3 at hb3 ⊢
  obtain ⟨hc3, hf3⟩ := bcell hb3
  have z3_0 : w.heap.size < w3.heap.size := bsize hb3 (by first | omega | (simp <;> omega))
  have z3_1 : w.heap.size + 1 < w3.heap.size := bsize hb3 (by first | omega | (simp <;> omega))
  have z3_2 : w.heap.size + 2 < w3.heap.size := bsize hb3 (by first | omega | (simp <;> omega))
  refine wp_region_still_tail 25 (by kernel_rfl) (by kernel_rfl) ?_
  simp only [List.take_succ_cons, List.take_zero, List.drop_succ_cons, List.drop_zero]
  repeat (first | still_step | still_call (up_dn _ _ _ h1 hk))
  refine wpStill_nil ?_
  change wpList _ _ _ _ _ (World.drew _)
  go_wp2_with fail
  exact bodyPost_ret (v := .agg #[.int .i64 n, .int .u64 (U (vputd n m a k p).v), .int .u64 (U (vputd n m a k p).x)]) (by simp [results, Tryd.results37, go_sem, hc1, z1_0, z1_1, z1_2, hc2, z2_0, z2_1, z2_2, hc3, z3_0, z3_1, z3_2] <;> first | rfl | exact ⟨rfl, rfl⟩ | exact ⟨rfl, rfl, rfl⟩) rfl ⟨rfl, by (repeat (first | exact Below.refl _ _ | exact Nat.le_refl _ | refine below_drewN ?_ _ | refine Below.drew ?_ | refine Below.alloc ?_ ?_ _ | refine Below.setCell ?_ ?_ _ | refine below_step (by assumption) ?_ ?_)) <;> (first | omega | (simp <;> omega))⟩
set_option maxRecDepth 100000 in
set_option maxHeartbeats 1000000 in
theorem resize_false (n m : Nat) (a : Vx) (w : World) (ha : a.ok n) (h1 : 1 ≤ n) (h2 : n ≤ 64) (m1 : 1 ≤ m) (m2 : m ≤ 64) : Calls Tryd.prog 38 #[.agg #[.int .i64 n, .int .u64 (U a.v), .int .u64 (U a.x)], .int .i64 m, .bool false] w fun e w' => e = .returned (.agg #[.int .i64 m, .int .u64 (U (vcut m a).v), .int .u64 (U (vcut m a).x)]) ∧ Below w.heap.size w w' := by
  go_enter Tryd.func38, Tryd.ntmps38
  go_wp2_with fail
  refine (valid_ok n a.v a.x _ ha).mono ?_
  rintro e w1 ⟨rfl, hb1⟩
  obtain ⟨hc1, hf1⟩ := bcell hb1
  have z1_0 : w.heap.size < w1.heap.size := bsize hb1 (by first | omega | (simp <;> omega))
  have z1_1 : w.heap.size + 1 < w1.heap.size := bsize hb1 (by first | omega | (simp <;> omega))
  go_wp2_with fail
  refine wp_region_still_tail 12 (by kernel_rfl) (by kernel_rfl) ?_
  simp only [List.take_succ_cons, List.take_zero, List.drop_succ_cons, List.drop_zero]
  repeat (first | still_step | still_call (mask_q _ (by omega) _))
  refine wpStill_nil ?_
  change wpList _ _ _ _ _ (World.drew _)
  go_wp2_with fail
  exact bodyPost_ret (v := .agg #[.int .i64 m, .int .u64 (U (vcut m a).v), .int .u64 (U (vcut m a).x)]) (by simp [results, Tryd.results38, go_sem, hc1, z1_0, z1_1] <;> first | rfl | exact ⟨rfl, rfl⟩ | exact ⟨rfl, rfl, rfl⟩) rfl ⟨rfl, by (repeat (first | exact Below.refl _ _ | exact Nat.le_refl _ | refine below_drewN ?_ _ | refine Below.drew ?_ | refine Below.alloc ?_ ?_ _ | refine Below.setCell ?_ ?_ _ | refine below_step (by assumption) ?_ ?_)) <;> (first | omega | (simp <;> omega))⟩
set_option maxRecDepth 100000 in
set_option maxHeartbeats 1000000 in
theorem resize_true (n m : Nat) (a : Vx) (w : World) (ha : a.ok n) (h1 : 1 ≤ n) (h2 : n ≤ 64) (m1 : 1 ≤ m) (m2 : m ≤ 64) : Calls Tryd.prog 38 #[.agg #[.int .i64 n, .int .u64 (U a.v), .int .u64 (U a.x)], .int .i64 m, .bool true] w fun e w' => e = .returned (.agg #[.int .i64 m, .int .u64 (U (vext n m a).v), .int .u64 (U (vext n m a).x)]) ∧ Below w.heap.size w w' := by
  go_enter Tryd.func38, Tryd.ntmps38
  go_wp2_with fail
  refine (valid_ok n a.v a.x _ ha).mono ?_
  rintro e w1 ⟨rfl, hb1⟩
  obtain ⟨hc1, hf1⟩ := bcell hb1
  have z1_0 : w.heap.size < w1.heap.size := bsize hb1 (by first | omega | (simp <;> omega))
  have z1_1 : w.heap.size + 1 < w1.heap.size := bsize hb1 (by first | omega | (simp <;> omega))
  go_wp2_with fail
  refine wp_region_still_tail 20 (by kernel_rfl) (by kernel_rfl) ?_
  simp only [List.take_succ_cons, List.take_zero, List.drop_succ_cons, List.drop_zero]
  repeat (first | still_step | still_call (mask_q _ (by omega) _) | still_call (extend_q' _ _ _ h1 h2))
  refine wpStill_nil ?_
  change wpList _ _ _ _ _ (World.drew _)
  go_wp2_with fail
  exact bodyPost_ret (v := .agg #[.int .i64 m, .int .u64 (U (vext n m a).v), .int .u64 (U (vext n m a).x)]) (by simp [results, Tryd.results38, go_sem, hc1, z1_0, z1_1] <;> first | rfl | exact ⟨rfl, rfl⟩ | exact ⟨rfl, rfl, rfl⟩) rfl ⟨rfl, by (repeat (first | exact Below.refl _ _ | exact Nat.le_refl _ | refine below_drewN ?_ _ | refine Below.drew ?_ | refine Below.alloc ?_ ?_ _ | refine Below.setCell ?_ ?_ _ | refine below_step (by assumption) ?_ ?_)) <;> (first | omega | (simp <;> omega))⟩
set_option maxRecDepth 100000 in
set_option maxHeartbeats 1000000 in
theorem part_k (n m k q : Nat) (a c : Vx) (w : World) (ha : a.ok n) (hc : c.ok q) (hx : (c.x == 0#64) = true) (HV : Hid (U c.v = (k : Int))) (h1 : 1 ≤ k) (hk : k ≤ 64) (m1 : 1 ≤ m) (m2 : m ≤ 64) (hn : n ≤ 64) : Calls Tryd.prog 36 #[.agg #[.int .i64 n, .int .u64 (U a.v), .int .u64 (U a.x)], .agg #[.int .i64 q, .int .u64 (U c.v), .int .u64 (U c.x)], .bool false, .int .i64 m] w fun e w' => e = .returned (.agg #[.int .i64 m, .int .u64 (U (vputd m n (fl m 3) k a).v), .int .u64 (U (vputd m n (fl m 3) k a).x)]) ∧ Below w.heap.size w w' := by
  go_enter Tryd.func36, Tryd.ntmps36
  go_wp2_with fail
  refine (valid_ok n a.v a.x _ ha).mono ?_
  rintro e w1 ⟨rfl, hb1⟩
  obtain ⟨hc1, hf1⟩ := bcell hb1
  have z1_0 : w.heap.size < w1.heap.size := bsize hb1 (by first | omega | (simp <;> omega))
  have z1_1 : w.heap.size + 1 < w1.heap.size := bsize hb1 (by first | omega | (simp <;> omega))
  have z1_2 : w.heap.size + 2 < w1.heap.size := bsize hb1 (by first | omega | (simp <;> omega))
  go_wp2_with fail
  refine (valid_ok q c.v c.x _ hc).mono ?_
  rintro e w2 ⟨rfl, hb2⟩
  obtain ⟨hc2, hf2⟩ := bcell hb2
  have z2_0 : w.heap.size < w2.heap.size := bsize hb2 (by first | omega | (simp <;> omega))
  have z2_1 : w.heap.size + 1 < w2.heap.size := bsize hb2 (by first | omega | (simp <;> omega))
  have z2_2 : w.heap.size + 2 < w2.heap.size := bsize hb2 (by first | omega | (simp <;> omega))
  go_wp2_with fail
  refine (known_yes q c _ hc hx).mono ?_
  rintro e w3 ⟨rfl, hb3⟩
  obtain ⟨hc3, hf3⟩ := bcell hb3
  have z3_0 : w.heap.size < w3.heap.size := bsize hb3 (by first | omega | (simp <;> omega))
  have z3_1 : w.heap.size + 1 < w3.heap.size := bsize hb3 (by first | omega | (simp <;> omega))
  have z3_2 : w.heap.size + 2 < w3.heap.size := bsize hb3 (by first | omega | (simp <;> omega))
  have hv := HV.out
  have hmin : min (k : Int) 64 = (k : Int) := by omega
  go_wp2_with fail
  have hneg : IntKind.i64.wrap (-(k : Int)) = -(k : Int) := IntWalk.i64_in _ (by omega)
  go_region_with (first
    | (go_at_call 18; (with_reducible refine (all_x m _ m1 m2).mono ?_); rintro e wp ⟨rfl, hbp⟩; replace hbp : Below w3.heap.size w3 wp := ⟨hbp.os, hbp.tape, hbp.output, hbp.size, hbp.block⟩; obtain ⟨hcp, hfp⟩ := bcell hbp; have zp0 : w.heap.size < wp.heap.size := bsize hbp (by first | omega | (simp <;> omega)); have zp1 : w.heap.size + 2 < wp.heap.size := bsize hbp (by first | omega | (simp <;> omega)))
    | (go_at_call 37; (with_reducible refine (putd_ok m n k (fl m 3) a _ (fl_ok m1 m2 3) ha m2 hn h1 (by omega)).mono ?_); rintro e w4 ⟨rfl, hb4⟩; replace hb4 : Below wp.heap.size wp w4 := ⟨hb4.os, hb4.tape, hb4.output, hb4.size, hb4.block⟩; obtain ⟨hc4, hf4⟩ := bcell hb4; have z4_2 : w.heap.size + 2 < w4.heap.size := bsize hb4 (by first | omega | (simp <;> omega))))
  all_goals
    go_wp2_with fail
  all_goals
  exact bodyPost_ret (v := .agg #[.int .i64 m, .int .u64 (U (vputd m n (fl m 3) k a).v), .int .u64 (U (vputd m n (fl m 3) k a).x)]) (by simp [results, Tryd.results36, go_sem, hc4, zp1, hcp, hc1, z1_0, z1_1, z1_2, hc2, z2_0, z2_1, z2_2, hc3, z3_0, z3_1, z3_2] <;> first | rfl | exact ⟨rfl, rfl⟩ | exact ⟨rfl, rfl, rfl⟩) rfl ⟨rfl, by (repeat (first | exact Below.refl _ _ | exact Nat.le_refl _ | refine below_drewN ?_ _ | refine Below.drew ?_ | refine Below.alloc ?_ ?_ _ | refine Below.setCell ?_ ?_ _ | refine below_step (by assumption) ?_ ?_)) <;> (first | omega | (simp <;> omega))⟩
end Go.Proofs.YtdpmojkpfnkcdaaDoor
