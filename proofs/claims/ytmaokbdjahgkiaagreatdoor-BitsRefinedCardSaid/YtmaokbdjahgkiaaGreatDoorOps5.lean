/- Parts of vectors that are valid: what the program returns. -/
import Derived.Test.YtmaokbdjahgkiaaGreatDoorParts
import Derived.Test.YtmaokbdjahgkiaaGreatDoorOps3
import Derived.Test.YtmaokbdjahgkiaaGreatDoorPut3
import Derived.StillTailTactics
namespace Go.Proofs.YtmaokbdjahgkiaaGreatDoor
open Go Go.RowKit
set_option linter.unusedVariables false
theorem neg_wrap (k : Nat) (h : k ≤ 1000000) : IntKind.u64.wrap (-IntKind.u64.wrap (-(k : Int))) = (k : Int) := by
  rw [IntKind.wrap_u64, IntKind.wrap_u64]; omega
set_option maxHeartbeats 400000 in
theorem up_dn (v : BitVec 64) (k : Nat) (w : World) (h1 : 1 ≤ k) (h : k ≤ 1000000) : Calls Tryz.prog 88 #[.int .u64 (U v), .int .i64 (-(k : Int))] w fun e w' => e = .returned (.int .u64 (U (v >>> k))) ∧ w' = w := by
  have hw := neg_wrap k h
  have hlt : -(k : Int) < 0 := by omega
  go_enter Tryz.func88, Tryz.ntmps88
  go_wp2_with fail
  go_ret
  exact ⟨ret_int (by rw [shr_min]), rfl⟩
theorem extend_q' (n : Nat) (v : BitVec 64) (w : World) (h1 : 1 ≤ n) (h2 : n ≤ 64) : Calls Tryz.prog 59 #[.int .i64 n, .int .u64 (U v)] w fun e w' => e = .returned (.int .i64 (S (ext n v))) ∧ w' = w := (extend_ok n v w h1 h2).mono fun _ _ ⟨a, b⟩ => ⟨a, b.symm⟩
set_option maxRecDepth 100000 in
set_option maxHeartbeats 1000000 in
theorem putd_ok (n m k : Nat) (a p : Vx) (w : World) (ha : a.ok n) (hp : p.ok m) (hn : n ≤ 64) (hm : m ≤ 64) (h1 : 1 ≤ k) (hk : k ≤ 1000000) : Calls Tryz.prog 81 #[.agg #[.int .i64 n, .int .u64 (U a.v), .int .u64 (U a.x)], .int .i64 (-(k : Int)), .agg #[.int .i64 m, .int .u64 (U p.v), .int .u64 (U p.x)]] w fun e w' => e = .returned (.agg #[.int .i64 n, .int .u64 (U (vputd n m a k p).v), .int .u64 (U (vputd n m a k p).x)]) ∧ Below w.heap.size w w' := by
  go_enter Tryz.func81, Tryz.ntmps81
  go_wp2_with fail
  refine (valid_ok n a.v a.x _ ha).mono ?_
  rintro e w1 ⟨rfl, hb1⟩
  obtain ⟨hc1, hf1⟩ := bcell hb1
  have z1_0 : w.heap.size < w1.heap.size := bsize hb1 (by first | omega | (simp <;> omega))
  have z1_1 : w.heap.size + 1 < w1.heap.size := bsize hb1 (by first | omega | (simp <;> omega))
  have z1_2 : w.heap.size + 2 < w1.heap.size := bsize hb1 (by first | omega | (simp <;> omega))
  go_wp2_with fail
  refine (valid_ok m p.v p.x _ hp).mono ?_
  rintro e w2 ⟨rfl, hb2⟩
  obtain ⟨hc2, hf2⟩ := bcell hb2
  have z2_0 : w.heap.size < w2.heap.size := bsize hb2 (by first | omega | (simp <;> omega))
  have z2_1 : w.heap.size + 1 < w2.heap.size := bsize hb2 (by first | omega | (simp <;> omega))
  have z2_2 : w.heap.size + 2 < w2.heap.size := bsize hb2 (by first | omega | (simp <;> omega))
  go_wp2_with fail
  go_quiet (first | (go_at_call 61; exact Calls.quiet_of_same (mask_q _ (by omega) _)) | (go_at_call 88; exact Calls.quiet_of_same (up_dn _ _ _ h1 hk)))
  go_wp2_with fail
  have hb3 := below_drewN (Below.refl w2.heap.size w2) nq
  generalize w2.drewN nq = w3 at hb3 ⊢
  obtain ⟨hc3, hf3⟩ := bcell hb3
  have z3_0 : w.heap.size < w3.heap.size := bsize hb3 (by first | omega | (simp <;> omega))
  have z3_1 : w.heap.size + 1 < w3.heap.size := bsize hb3 (by first | omega | (simp <;> omega))
  have z3_2 : w.heap.size + 2 < w3.heap.size := bsize hb3 (by first | omega | (simp <;> omega))
  refine wp_region_still_tail 25 (by kernel_rfl) (by kernel_rfl) ?_
  simp only [List.take_succ_cons, List.take_zero, List.drop_succ_cons, List.drop_zero]
  repeat (first | still_step | still_call (up_dn _ _ _ h1 hk))
  refine wpStill_nil ?_
  change wpList _ _ _ _ _ (World.drew _)
  go_wp2_with fail
  exact bodyPost_ret (v := .agg #[.int .i64 n, .int .u64 (U (vputd n m a k p).v), .int .u64 (U (vputd n m a k p).x)]) (by simp [results, Tryz.results81, go_sem, hc1, z1_0, z1_1, z1_2, hc2, z2_0, z2_1, z2_2, hc3, z3_0, z3_1, z3_2] <;> first | rfl | exact ⟨rfl, rfl⟩ | exact ⟨rfl, rfl, rfl⟩) rfl ⟨rfl, by (repeat (first | exact Below.refl _ _ | exact Nat.le_refl _ | refine below_drewN ?_ _ | refine Below.drew ?_ | refine Below.alloc ?_ ?_ _ | refine Below.setCell ?_ ?_ _ | refine below_step (by assumption) ?_ ?_)) <;> (first | omega | (simp <;> omega))⟩
set_option maxRecDepth 100000 in
set_option maxHeartbeats 1000000 in
theorem resize_false (n m : Nat) (a : Vx) (w : World) (ha : a.ok n) (h1 : 1 ≤ n) (h2 : n ≤ 64) (m1 : 1 ≤ m) (m2 : m ≤ 64) : Calls Tryz.prog 37 #[.agg #[.int .i64 n, .int .u64 (U a.v), .int .u64 (U a.x)], .int .i64 m, .bool false] w fun e w' => e = .returned (.agg #[.int .i64 m, .int .u64 (U (vcut m a).v), .int .u64 (U (vcut m a).x)]) ∧ Below w.heap.size w w' := by
  go_enter Tryz.func37, Tryz.ntmps37
  go_wp2_with fail
  refine (valid_ok n a.v a.x _ ha).mono ?_
  rintro e w1 ⟨rfl, hb1⟩
  obtain ⟨hc1, hf1⟩ := bcell hb1
  have z1_0 : w.heap.size < w1.heap.size := bsize hb1 (by first | omega | (simp <;> omega))
  have z1_1 : w.heap.size + 1 < w1.heap.size := bsize hb1 (by first | omega | (simp <;> omega))
  go_wp2_with fail
  refine wp_region_still_tail 12 (by kernel_rfl) (by kernel_rfl) ?_
  simp only [List.take_succ_cons, List.take_zero, List.drop_succ_cons, List.drop_zero]
  repeat (first | still_step | still_call (mask_q _ (by omega) _))
  refine wpStill_nil ?_
  change wpList _ _ _ _ _ (World.drew _)
  go_wp2_with fail
  exact bodyPost_ret (v := .agg #[.int .i64 m, .int .u64 (U (vcut m a).v), .int .u64 (U (vcut m a).x)]) (by simp [results, Tryz.results37, go_sem, hc1, z1_0, z1_1] <;> first | rfl | exact ⟨rfl, rfl⟩ | exact ⟨rfl, rfl, rfl⟩) rfl ⟨rfl, by (repeat (first | exact Below.refl _ _ | exact Nat.le_refl _ | refine below_drewN ?_ _ | refine Below.drew ?_ | refine Below.alloc ?_ ?_ _ | refine Below.setCell ?_ ?_ _ | refine below_step (by assumption) ?_ ?_)) <;> (first | omega | (simp <;> omega))⟩
set_option maxRecDepth 100000 in
set_option maxHeartbeats 1000000 in
theorem resize_true (n m : Nat) (a : Vx) (w : World) (ha : a.ok n) (h1 : 1 ≤ n) (h2 : n ≤ 64) (m1 : 1 ≤ m) (m2 : m ≤ 64) : Calls Tryz.prog 37 #[.agg #[.int .i64 n, .int .u64 (U a.v), .int .u64 (U a.x)], .int .i64 m, .bool true] w fun e w' => e = .returned (.agg #[.int .i64 m, .int .u64 (U (vext n m a).v), .int .u64 (U (vext n m a).x)]) ∧ Below w.heap.size w w' := by
  go_enter Tryz.func37, Tryz.ntmps37
  go_wp2_with fail
  refine (valid_ok n a.v a.x _ ha).mono ?_
  rintro e w1 ⟨rfl, hb1⟩
  obtain ⟨hc1, hf1⟩ := bcell hb1
  have z1_0 : w.heap.size < w1.heap.size := bsize hb1 (by first | omega | (simp <;> omega))
  have z1_1 : w.heap.size + 1 < w1.heap.size := bsize hb1 (by first | omega | (simp <;> omega))
  go_wp2_with fail
  refine wp_region_still_tail 20 (by kernel_rfl) (by kernel_rfl) ?_
  simp only [List.take_succ_cons, List.take_zero, List.drop_succ_cons, List.drop_zero]
  repeat (first | still_step | still_call (mask_q _ (by omega) _) | still_call (extend_q' _ _ _ h1 h2))
  refine wpStill_nil ?_
  change wpList _ _ _ _ _ (World.drew _)
  go_wp2_with fail
  exact bodyPost_ret (v := .agg #[.int .i64 m, .int .u64 (U (vext n m a).v), .int .u64 (U (vext n m a).x)]) (by simp [results, Tryz.results37, go_sem, hc1, z1_0, z1_1] <;> first | rfl | exact ⟨rfl, rfl⟩ | exact ⟨rfl, rfl, rfl⟩) rfl ⟨rfl, by (repeat (first | exact Below.refl _ _ | exact Nat.le_refl _ | refine below_drewN ?_ _ | refine Below.drew ?_ | refine Below.alloc ?_ ?_ _ | refine Below.setCell ?_ ?_ _ | refine below_step (by assumption) ?_ ?_)) <;> (first | omega | (simp <;> omega))⟩
end Go.Proofs.YtmaokbdjahgkiaaGreatDoor
