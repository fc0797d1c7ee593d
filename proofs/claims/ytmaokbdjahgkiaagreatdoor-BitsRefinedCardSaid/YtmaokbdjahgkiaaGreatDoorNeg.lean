/- The negative number of a vector that is valid. -/
import Derived.Test.YtmaokbdjahgkiaaGreatDoorOps4
namespace Go.Proofs.YtmaokbdjahgkiaaGreatDoor
open Go Go.RowKit
set_option linter.unusedVariables false
/-- the negative number -/
def vneg (n : Nat) (a : Vx) : Vx := vop n (· - ·) (kv n 0#64) a
theorem of_zero (n : Nat) (w : World) (h1 : 1 ≤ n) (h2 : n ≤ 64) : Calls Tryz.prog 50 #[.int .i64 n, .int .u64 0] w fun e w' => e = .returned (.agg #[.int .i64 n, .int .u64 (U (kv n 0#64).v), .int .u64 (U (kv n 0#64).x)]) ∧ Below w.heap.size w w' := of_ok n 0#64 w h1 h2
set_option maxHeartbeats 400000 in
theorem neg_ok (n : Nat) (a : Vx) (w : World) (ha : a.ok n) : Calls Tryz.prog 25 #[.agg #[.int .i64 n, .int .u64 (U a.v), .int .u64 (U a.x)]] w fun e w' => e = .returned (.agg #[.int .i64 n, .int .u64 (U (vneg n a).v), .int .u64 (U (vneg n a).x)]) ∧ Below w.heap.size w w' := by
  have h1 := ha.lo
  have h2 := ha.hi
  go_enter Tryz.func25, Tryz.ntmps25
  go_wp2_with fail
  go_region_with (first
    | (go_at_call 50; (with_reducible refine (of_zero n _ h1 h2).mono ?_); rintro e wp ⟨rfl, hbp⟩; obtain ⟨hcp, hfp⟩ := bcell hbp; have zp0 : w.heap.size < wp.heap.size := bsize hbp (by first | omega | (simp <;> omega)); have zp1 : w.heap.size + 1 < wp.heap.size := bsize hbp (by first | omega | (simp <;> omega)))
    | (go_at_call 27; (with_reducible refine (sub_ok n (kv n 0#64) a _ (kv_ok h1 h2 _) ha).mono ?_); rintro e wq ⟨rfl, hbq⟩; obtain ⟨hcq, hfq⟩ := bcell hbq; have zq0 : w.heap.size < wq.heap.size := bsize hbq (by first | omega | (simp <;> omega)); have zq1 : w.heap.size + 1 < wq.heap.size := bsize hbq (by first | omega | (simp <;> omega))))
  all_goals
    go_wp2_with fail
    exact bodyPost_ret (v := .agg #[.int .i64 n, .int .u64 (U (vneg n a).v), .int .u64 (U (vneg n a).x)]) (by simp [results, Tryz.results25, go_sem, hcq, zp1, hcp] <;> first | rfl | exact ⟨rfl, rfl⟩ | exact ⟨rfl, rfl, rfl⟩) rfl ⟨rfl, by (repeat (first | exact Below.refl _ _ | exact Nat.le_refl _ | refine below_drewN ?_ _ | refine Below.drew ?_ | refine Below.alloc ?_ ?_ _ | refine Below.setCell ?_ ?_ _ | refine below_step (by assumption) ?_ ?_)) <;> (first | omega | (simp <;> omega))⟩
end Go.Proofs.YtmaokbdjahgkiaaGreatDoor
