/- Any value of the type of vectors, valid or not: what Check, valid and alike say of it. -/
import Derived.Test.YtpjnjcljaoaceaaVec
namespace Go.Proofs.Ytpjnjcljaoaceaa
open Go Go.RowKit
set_option linter.unusedVariables false
/-- any value of the type of vectors -/
structure Rb where
  W : Int
  v : BitVec 64
  x : BitVec 64
def Rb.okB (r : Rb) : Bool := decide (1 ≤ r.W) && decide (r.W ≤ 64) && ((r.v ||| r.x) &&& ~~~msk r.W.toNat == 0#64)
def Rb.chk (r : Rb) : Int := if 1 ≤ r.W ∧ r.W ≤ 64 then (if (r.v ||| r.x) &&& ~~~msk r.W.toNat = 0#64 then 0 else 4) else 2
theorem Rb.ok_of {r : Rb} (h : r.okB = true) : ∃ n : Nat, r.W = n ∧ Ok n r.v r.x := by
  simp only [Rb.okB, Bool.and_eq_true, decide_eq_true_eq, beq_iff_eq] at h
  obtain ⟨⟨h1, h2⟩, h3⟩ := h
  exact ⟨r.W.toNat, by omega, Ok.of_both (by omega) (by omega) (by simpa using h3)⟩
theorem Rb.okB_of {n : Nat} {v x : BitVec 64} (h : Ok n v x) : (⟨(n : Int), v, x⟩ : Rb).okB = true := by
  have h1 := h.lo
  have h2 := h.hi
  have h3 := h.both
  simp only [Rb.okB, Bool.and_eq_true, decide_eq_true_eq, beq_iff_eq, Int.toNat_natCast]
  exact ⟨⟨by omega, by omega⟩, by simpa using h3⟩
theorem Rb.chk_ok (r : Rb) : (r.chk == 0) = r.okB := by
  unfold Rb.chk Rb.okB
  by_cases h : 1 ≤ r.W ∧ r.W ≤ 64
  · rw [if_pos h]
    by_cases h2 : (r.v ||| r.x) &&& ~~~msk r.W.toNat = 0#64
    · simp [h, h2]
    · simp [h2]
  · rw [if_neg h]
    simp only [not_and] at h
    by_cases h1 : 1 ≤ r.W
    · simp [h1, h h1]
    · simp [h1]
set_option maxHeartbeats 400000 in
theorem check_lo (W : Int) (V X : BitVec 64) (w : World) (h : ¬ (1 ≤ W ∧ W ≤ 64)) : Calls Try.prog 40 #[.agg #[.int .i64 W, .int .u64 (U V), .int .u64 (U X)]] w fun e w' => e = .returned (.int .i64 2) ∧ Below w.heap.size w w' := by
  by_cases h1 : W < 1
  · go_enter Try.func40, Try.ntmps40
    go_wp2_with fail
    go_ret
    exact ⟨rfl, (Below.refl _ _).alloc (Nat.le_refl _) _⟩
  · have h2 : 64 < W := by omega
    go_enter Try.func40, Try.ntmps40
    go_wp2_with fail
    go_ret
    exact ⟨rfl, (Below.refl _ _).alloc (Nat.le_refl _) _⟩
set_option maxHeartbeats 400000 in
theorem check_bits (n : Nat) (V X : BitVec 64) (w : World) (h1 : 1 ≤ n) (h2 : n ≤ 64) (ht : ((V ||| X) &&& ~~~msk n != 0#64) = true) : Calls Try.prog 40 #[.agg #[.int .i64 n, .int .u64 (U V), .int .u64 (U X)]] w fun e w' => e = .returned (.int .i64 4) ∧ Below w.heap.size w w' := by
  go_enter Try.func40, Try.ntmps40
  go_wp2_with fail
  go_quiet ((go_at_call 49; exact Calls.quiet_of_same (mask_q _ h2 _)))
  go_wp2_with fail
  go_ret
  exact ⟨rfl, below_drewN ((Below.refl _ _).alloc (Nat.le_refl _) _) _⟩
theorem check_any (r : Rb) (w : World) : Calls Try.prog 40 #[.agg #[.int .i64 r.W, .int .u64 (U r.v), .int .u64 (U r.x)]] w fun e w' => e = .returned (.int .i64 r.chk) ∧ Below w.heap.size w w' := by
  obtain ⟨W, V, X⟩ := r
  unfold Rb.chk
  by_cases h : 1 ≤ W ∧ W ≤ 64
  · rw [if_pos h]
    obtain ⟨n, rfl⟩ : ∃ n : Nat, W = n := ⟨W.toNat, by omega⟩
    simp only [Int.toNat_natCast]
    by_cases h2 : (V ||| X) &&& ~~~msk n = 0#64
    · rw [if_pos h2]; exact check_ok n V X w (Ok.of_both (by omega) (by omega) (by simpa using h2))
    · rw [if_neg h2]; exact check_bits n V X w (by omega) (by omega) (by simpa using h2)
  · rw [if_neg h]; exact check_lo W V X w h
def alikeB (a b : Rb) : Bool := a.okB && b.okB && decide (a.W = b.W)
end Go.Proofs.Ytpjnjcljaoaceaa
