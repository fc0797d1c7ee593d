/- What Rep returns of any vector and any number. -/
import Derived.Test.YtdpmojkpfnkcdaaDoorRepN
namespace Go.Proofs.YtdpmojkpfnkcdaaDoor
open Go Go.RowKit Go.Sort
set_option linter.unusedVariables false
def repV (r : Rb) (n : Int) : Rb := if 1 ≤ n ∧ n ≤ 64 then catV (List.replicate n.toNat r) else ⟨0, 0#64, 0#64⟩
theorem cat_rep (p : Option Addr) (cap n : Nat) (r q : Rb) (w : World) (hq : catV (List.replicate n r) = q) (hl : Vs p (List.replicate n r) w) :
    Calls Tryd.prog 28 #[.slice p n cap] w fun e w' => e = .returned (.agg #[.int .i64 q.W, .int .u64 (U q.v), .int .u64 (U q.x)]) ∧ Below w.heap.size w w' := by
  have h := cat_any p cap (List.replicate n r) w hl
  rw [hq, List.length_replicate] at h
  exact h
set_option maxRecDepth 100000 in
set_option maxHeartbeats 1000000 in
theorem rep_in (n : Nat) (r q : Rb) (w : World) (n1 : 1 ≤ n) (n2 : n ≤ 64) (hq : catV (List.replicate n r) = q) :
    Calls Tryd.prog 29 #[.agg #[.int .i64 r.W, .int .u64 (U r.v), .int .u64 (U r.x)], .int .i64 n] w fun e w' => e = .returned (.agg #[.int .i64 q.W, .int .u64 (U q.v), .int .u64 (U q.x)]) ∧ Below w.heap.size w w' := by
  have HQ := Lib.hid hq
  clear hq
  go_enter Tryd.func29, Tryd.ntmps29
  go_wp2_with fail
  (with_reducible refine (repeat_n _ _ n r _ n1 n2 ?_ ?_ ?_).mono ?_)
  · go_simp
  · go_simp
  · go_simp
  rintro e w1 ⟨rfl, hv, hb1⟩
  have hv' : Vs (some ⟨w.heap.size + 1 + 1 + 1, 0, none⟩) (List.replicate n r) w1 := by simpa using hv
  have HV := Lib.hid hv'
  clear hv hv'
  obtain ⟨hc1, hf1⟩ := bcell hb1
  have z0 : w.heap.size + 1 < w1.heap.size := bsize hb1 (by simp <;> omega)
  go_wp2_with fail
  (with_reducible refine (cat_rep _ _ n r q _ HQ.out HV.out).mono ?_)
  rintro e w2 ⟨rfl, hb2⟩
  obtain ⟨hc2, hf2⟩ := bcell hb2
  have z1 : w.heap.size + 1 < w2.heap.size := bsize hb2 (by omega)
  go_wp2_with fail
  exact bodyPost_ret (v := .agg #[.int .i64 q.W, .int .u64 (U q.v), .int .u64 (U q.x)]) (by simp [results, Tryd.results29, go_sem, hc2, z0, hc1] <;> first | rfl | exact ⟨rfl, rfl⟩ | exact ⟨rfl, rfl, rfl⟩) rfl ⟨rfl, by (repeat (first | exact Below.refl _ _ | exact Nat.le_refl _ | refine below_drewN ?_ _ | refine Below.drew ?_ | refine Below.alloc ?_ ?_ _ | refine Below.setCell ?_ ?_ _ | refine below_step (by assumption) ?_ ?_)) <;> (first | omega | (simp <;> omega))⟩
set_option maxRecDepth 100000 in
set_option maxHeartbeats 1000000 in
theorem rep_out (n : Int) (r : Rb) (w : World) (h : ¬ (1 ≤ n ∧ n ≤ 64)) :
    Calls Tryd.prog 29 #[.agg #[.int .i64 r.W, .int .u64 (U r.v), .int .u64 (U r.x)], .int .i64 n] w fun e w' => e = .returned (.agg #[.int .i64 0, .int .u64 0, .int .u64 0]) ∧ Below w.heap.size w w' := by
  by_cases h0 : n < 1
  · clear h
    go_enter Tryd.func29, Tryd.ntmps29
    go_wp2_with fail
    exact bodyPost_ret (v := .agg #[.int .i64 0, .int .u64 0, .int .u64 0]) (by simp [results, Tryd.results29, go_sem] <;> first | rfl | exact ⟨rfl, rfl⟩ | exact ⟨rfl, rfl, rfl⟩) rfl ⟨rfl, by (repeat (first | exact Below.refl _ _ | exact Nat.le_refl _ | refine below_drewN ?_ _ | refine Below.drew ?_ | refine Below.alloc ?_ ?_ _ | refine Below.setCell ?_ ?_ _ | refine below_step (by assumption) ?_ ?_)) <;> (first | omega | (simp <;> omega))⟩
  · have h1 : 64 < n := by omega
    clear h
    go_enter Tryd.func29, Tryd.ntmps29
    go_wp2_with fail
    exact bodyPost_ret (v := .agg #[.int .i64 0, .int .u64 0, .int .u64 0]) (by simp [results, Tryd.results29, go_sem] <;> first | rfl | exact ⟨rfl, rfl⟩ | exact ⟨rfl, rfl, rfl⟩) rfl ⟨rfl, by (repeat (first | exact Below.refl _ _ | exact Nat.le_refl _ | refine below_drewN ?_ _ | refine Below.drew ?_ | refine Below.alloc ?_ ?_ _ | refine Below.setCell ?_ ?_ _ | refine below_step (by assumption) ?_ ?_)) <;> (first | omega | (simp <;> omega))⟩
/-- any vector, any number -/
theorem rep_any (n : Int) (r : Rb) (w : World) :
    Calls Tryd.prog 29 #[.agg #[.int .i64 r.W, .int .u64 (U r.v), .int .u64 (U r.x)], .int .i64 n] w fun e w' => e = .returned (.agg #[.int .i64 (repV r n).W, .int .u64 (U (repV r n).v), .int .u64 (U (repV r n).x)]) ∧ Below w.heap.size w w' := by
  unfold repV
  by_cases h : 1 ≤ n ∧ n ≤ 64
  · rw [if_pos h]
    obtain ⟨m, rfl⟩ : ∃ m : Nat, n = m := ⟨n.toNat, by omega⟩
    exact rep_in m r _ w (by omega) (by omega) (by rw [Int.toNat_natCast])
  · rw [if_neg h]
    exact (rep_out n r w h).mono fun _ _ ⟨he, hb⟩ => ⟨he.trans (by simp only [show U 0#64 = 0 from by decide]), hb⟩
end Go.Proofs.YtdpmojkpfnkcdaaDoor
