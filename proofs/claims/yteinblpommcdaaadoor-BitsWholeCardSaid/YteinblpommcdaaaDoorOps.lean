/- The operations of package bits on vectors that are valid: what they return. -/
import Derived.Test.YteinblpommcdaaaDoorBit
namespace Go.Proofs.YteinblpommcdaaaDoor
open Go Go.RowKit
set_option linter.unusedVariables false
set_option maxHeartbeats 400000 in
theorem and_ok (n : Nat) (a b : Vx) (w : World) (ha : a.ok n) (hb : b.ok n) : Calls Tryd.prog 79 #[.agg #[.int .i64 n, .int .u64 (U a.v), .int .u64 (U a.x)], .agg #[.int .i64 n, .int .u64 (U b.v), .int .u64 (U b.x)]] w fun e w' => e = .returned (.agg #[.int .i64 n, .int .u64 (U (vand n a b).v), .int .u64 (U (vand n a b).x)]) ∧ Below w.heap.size w w' := by
  go_enter Tryd.func79, Tryd.ntmps79
  go_wp2_with fail
  refine (alike_ok n a.v a.x b.v b.x _ ha hb).mono ?_
  rintro e w1 ⟨rfl, hb1⟩
  obtain ⟨hc1, hf1⟩ := bcell hb1
  have z1_0 : w.heap.size < w1.heap.size := bsize hb1 (by first | omega | (simp <;> omega))
  have z1_1 : w.heap.size + 1 < w1.heap.size := bsize hb1 (by first | omega | (simp <;> omega))
  have z1_2 : w.heap.size + 2 < w1.heap.size := bsize hb1 (by first | omega | (simp <;> omega))
  go_wp2_with fail
  refine (split_ok n a _ ha.hi).mono ?_
  rintro e w2 ⟨rfl, hb2⟩
  obtain ⟨hc2, hf2⟩ := bcell hb2
  have z2_0 : w.heap.size < w2.heap.size := bsize hb2 (by first | omega | (simp <;> omega))
  have z2_1 : w.heap.size + 1 < w2.heap.size := bsize hb2 (by first | omega | (simp <;> omega))
  have z2_2 : w.heap.size + 2 < w2.heap.size := bsize hb2 (by first | omega | (simp <;> omega))
  go_wp2_with fail
  refine (split_ok n b _ ha.hi).mono ?_
  rintro e w3 ⟨rfl, hb3⟩
  obtain ⟨hc3, hf3⟩ := bcell hb3
  have z3_0 : w.heap.size < w3.heap.size := bsize hb3 (by first | omega | (simp <;> omega))
  have z3_1 : w.heap.size + 1 < w3.heap.size := bsize hb3 (by first | omega | (simp <;> omega))
  have z3_2 : w.heap.size + 2 < w3.heap.size := bsize hb3 (by first | omega | (simp <;> omega))
  go_wp2_with fail
  refine (join_ok n (one1 a &&& one1 b) (zero1 n a ||| zero1 n b) _ ha.hi).mono ?_
  rintro e w4 ⟨rfl, hb4⟩
  obtain ⟨hc4, hf4⟩ := bcell hb4
  have z4_0 : w.heap.size < w4.heap.size := bsize hb4 (by first | omega | (simp <;> omega))
  have z4_1 : w.heap.size + 1 < w4.heap.size := bsize hb4 (by first | omega | (simp <;> omega))
  have z4_2 : w.heap.size + 2 < w4.heap.size := bsize hb4 (by first | omega | (simp <;> omega))
  go_wp2_with fail
  exact bodyPost_ret (v := .agg #[.int .i64 n, .int .u64 (U (vand n a b).v), .int .u64 (U (vand n a b).x)]) (by simp [results, Tryd.results79, go_sem, hc1, z1_2, hc2, z2_2, hc3, z3_2, hc4] <;> first | rfl | exact ⟨rfl, rfl⟩ | exact ⟨rfl, rfl, rfl⟩) rfl ⟨rfl, by (repeat (first | exact Below.refl _ _ | exact Nat.le_refl _ | refine below_drewN ?_ _ | refine Below.drew ?_ | refine Below.alloc ?_ ?_ _ | refine Below.setCell ?_ ?_ _ | refine below_step (by assumption) ?_ ?_)) <;> (first | omega | (simp <;> omega))⟩
set_option maxHeartbeats 400000 in
theorem or_ok (n : Nat) (a b : Vx) (w : World) (ha : a.ok n) (hb : b.ok n) : Calls Tryd.prog 80 #[.agg #[.int .i64 n, .int .u64 (U a.v), .int .u64 (U a.x)], .agg #[.int .i64 n, .int .u64 (U b.v), .int .u64 (U b.x)]] w fun e w' => e = .returned (.agg #[.int .i64 n, .int .u64 (U (vor n a b).v), .int .u64 (U (vor n a b).x)]) ∧ Below w.heap.size w w' := by
  go_enter Tryd.func80, Tryd.ntmps80
  go_wp2_with fail
  refine (alike_ok n a.v a.x b.v b.x _ ha hb).mono ?_
  rintro e w1 ⟨rfl, hb1⟩
  obtain ⟨hc1, hf1⟩ := bcell hb1
  have z1_0 : w.heap.size < w1.heap.size := bsize hb1 (by first | omega | (simp <;> omega))
  have z1_1 : w.heap.size + 1 < w1.heap.size := bsize hb1 (by first | omega | (simp <;> omega))
  have z1_2 : w.heap.size + 2 < w1.heap.size := bsize hb1 (by first | omega | (simp <;> omega))
  go_wp2_with fail
  refine (split_ok n a _ ha.hi).mono ?_
  rintro e w2 ⟨rfl, hb2⟩
  obtain ⟨hc2, hf2⟩ := bcell hb2
  have z2_0 : w.heap.size < w2.heap.size := bsize hb2 (by first | omega | (simp <;> omega))
  have z2_1 : w.heap.size + 1 < w2.heap.size := bsize hb2 (by first | omega | (simp <;> omega))
  have z2_2 : w.heap.size + 2 < w2.heap.size := bsize hb2 (by first | omega | (simp <;> omega))
  go_wp2_with fail
  refine (split_ok n b _ ha.hi).mono ?_
  rintro e w3 ⟨rfl, hb3⟩
  obtain ⟨hc3, hf3⟩ := bcell hb3
  have z3_0 : w.heap.size < w3.heap.size := bsize hb3 (by first | omega | (simp <;> omega))
  have z3_1 : w.heap.size + 1 < w3.heap.size := bsize hb3 (by first | omega | (simp <;> omega))
  have z3_2 : w.heap.size + 2 < w3.heap.size := bsize hb3 (by first | omega | (simp <;> omega))
  go_wp2_with fail
  refine (join_ok n (one1 a ||| one1 b) (zero1 n a &&& zero1 n b) _ ha.hi).mono ?_
  rintro e w4 ⟨rfl, hb4⟩
  obtain ⟨hc4, hf4⟩ := bcell hb4
  have z4_0 : w.heap.size < w4.heap.size := bsize hb4 (by first | omega | (simp <;> omega))
  have z4_1 : w.heap.size + 1 < w4.heap.size := bsize hb4 (by first | omega | (simp <;> omega))
  have z4_2 : w.heap.size + 2 < w4.heap.size := bsize hb4 (by first | omega | (simp <;> omega))
  go_wp2_with fail
  exact bodyPost_ret (v := .agg #[.int .i64 n, .int .u64 (U (vor n a b).v), .int .u64 (U (vor n a b).x)]) (by simp [results, Tryd.results80, go_sem, hc1, z1_2, hc2, z2_2, hc3, z3_2, hc4] <;> first | rfl | exact ⟨rfl, rfl⟩ | exact ⟨rfl, rfl, rfl⟩) rfl ⟨rfl, by (repeat (first | exact Below.refl _ _ | exact Nat.le_refl _ | refine below_drewN ?_ _ | refine Below.drew ?_ | refine Below.alloc ?_ ?_ _ | refine Below.setCell ?_ ?_ _ | refine below_step (by assumption) ?_ ?_)) <;> (first | omega | (simp <;> omega))⟩
set_option maxHeartbeats 400000 in
theorem true_0 (n : Nat) (a : Vx) (w : World) (ha : a.ok n) (h0 : (a.v ||| a.x == 0#64) = true) : Calls Tryd.prog 16 #[.agg #[.int .i64 n, .int .u64 (U a.v), .int .u64 (U a.x)]] w fun e w' => e = .returned (.int .i64 0) ∧ Below w.heap.size w w' := by
  go_enter Tryd.func16, Tryd.ntmps16
  go_wp2_with fail
  refine (valid_ok n a.v a.x _ ha).mono ?_
  rintro e w1 ⟨rfl, hb1⟩
  obtain ⟨hc1, hf1⟩ := bcell hb1
  have z1_0 : w.heap.size < w1.heap.size := bsize hb1 (by first | omega | (simp <;> omega))
  go_wp2_with fail
  go_ret
  exact ⟨rfl, by (repeat (first | exact Below.refl _ _ | exact Nat.le_refl _ | refine below_drewN ?_ _ | refine Below.drew ?_ | refine Below.alloc ?_ ?_ _ | refine Below.setCell ?_ ?_ _ | refine below_step (by assumption) ?_ ?_)) <;> (first | omega | (simp <;> omega))⟩
set_option maxHeartbeats 400000 in
theorem true_1 (n : Nat) (a : Vx) (w : World) (ha : a.ok n) (h0 : (a.v ||| a.x == 0#64) = false) (h1 : (a.v &&& ~~~a.x != 0#64) = true) : Calls Tryd.prog 16 #[.agg #[.int .i64 n, .int .u64 (U a.v), .int .u64 (U a.x)]] w fun e w' => e = .returned (.int .i64 1) ∧ Below w.heap.size w w' := by
  go_enter Tryd.func16, Tryd.ntmps16
  go_wp2_with fail
  refine (valid_ok n a.v a.x _ ha).mono ?_
  rintro e w1 ⟨rfl, hb1⟩
  obtain ⟨hc1, hf1⟩ := bcell hb1
  have z1_0 : w.heap.size < w1.heap.size := bsize hb1 (by first | omega | (simp <;> omega))
  go_wp2_with fail
  go_ret
  exact ⟨rfl, by (repeat (first | exact Below.refl _ _ | exact Nat.le_refl _ | refine below_drewN ?_ _ | refine Below.drew ?_ | refine Below.alloc ?_ ?_ _ | refine Below.setCell ?_ ?_ _ | refine below_step (by assumption) ?_ ?_)) <;> (first | omega | (simp <;> omega))⟩
set_option maxHeartbeats 400000 in
theorem true_m (n : Nat) (a : Vx) (w : World) (ha : a.ok n) (h0 : (a.v ||| a.x == 0#64) = false) (h1 : (a.v &&& ~~~a.x != 0#64) = false) : Calls Tryd.prog 16 #[.agg #[.int .i64 n, .int .u64 (U a.v), .int .u64 (U a.x)]] w fun e w' => e = .returned (.int .i64 (-1)) ∧ Below w.heap.size w w' := by
  go_enter Tryd.func16, Tryd.ntmps16
  go_wp2_with fail
  refine (valid_ok n a.v a.x _ ha).mono ?_
  rintro e w1 ⟨rfl, hb1⟩
  obtain ⟨hc1, hf1⟩ := bcell hb1
  have z1_0 : w.heap.size < w1.heap.size := bsize hb1 (by first | omega | (simp <;> omega))
  go_wp2_with fail
  go_ret
  exact ⟨rfl, by (repeat (first | exact Below.refl _ _ | exact Nat.le_refl _ | refine below_drewN ?_ _ | refine Below.drew ?_ | refine Below.alloc ?_ ?_ _ | refine Below.setCell ?_ ?_ _ | refine below_step (by assumption) ?_ ?_)) <;> (first | omega | (simp <;> omega))⟩
theorem true_ok (n : Nat) (a : Vx) (w : World) (ha : a.ok n) : Calls Tryd.prog 16 #[.agg #[.int .i64 n, .int .u64 (U a.v), .int .u64 (U a.x)]] w fun e w' => e = .returned (.int .i64 (tru a)) ∧ Below w.heap.size w w' := by
  unfold tru
  by_cases h0 : a.v ||| a.x = 0#64
  · rw [if_pos h0]; exact true_0 n a w ha (by simpa using h0)
  · rw [if_neg h0]
    by_cases h1 : a.v &&& ~~~a.x = 0#64
    · rw [if_pos h1]; exact true_m n a w ha (by simpa using h0) (by simpa using h1)
    · rw [if_neg h1]; exact true_1 n a w ha (by simpa using h0) (by simpa using h1)
def vlnot (a : Vx) : Vx := vnot 1 (redor a)
def redand (n : Nat) (a : Vx) : Vx := vnot 1 (redor (vnot n a))
end Go.Proofs.YteinblpommcdaaaDoor
