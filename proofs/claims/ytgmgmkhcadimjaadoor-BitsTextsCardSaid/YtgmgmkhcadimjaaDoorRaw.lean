/- Any value of the type of vectors, valid or not: what Check, valid and alike say of it. -/
import Derived.Test.YtgmgmkhcadimjaaDoorVec
namespace Go.Proofs.YtgmgmkhcadimjaaDoor
open Go Go.RowKit
set_option linter.unusedVariables false
/-- any value of the type of vectors -/
structure Rb where
  W : Int
  v : BitVec 64
  x : BitVec 64
def Rb.okB (r : Rb) : Bool := decide (1 ≤ r.W) && decide (r.W ≤ 64) && ((r.v ||| r.x) &&& ~~~msk r.W.toNat == 0#64)
def Rb.chk (r : Rb) : Int := if 1 ≤ r.W ∧ r.W ≤ 64 then (if (r.v ||| r.x) &&& ~~~msk r.W.toNat = 0#64 then 0 else 4) else 2
theorem Rb.ok_of {r : Rb} (h : r.okB = true) : ∃ n : Nat, r.W = n ∧ Ok n r.v r.x := by
  simp only [Rb.okB, Bool.and_eq_true, decide_eq_true_eq, beq_iff_eq] at h
  obtain ⟨⟨h1, h2⟩, h3⟩ := h
  exact ⟨r.W.toNat, by omega, Ok.of_both (by omega) (by omega) (by simpa using h3)⟩
theorem Rb.okB_of {n : Nat} {v x : BitVec 64} (h : Ok n v x) : (⟨(n : Int), v, x⟩ : Rb).okB = true := by
  have h1 := h.lo
  have h2 := h.hi
  have h3 := h.both
  simp only [Rb.okB, Bool.and_eq_true, decide_eq_true_eq, beq_iff_eq, Int.toNat_natCast]
  exact ⟨⟨by omega, by omega⟩, by simpa using h3⟩
theorem Rb.chk_ok (r : Rb) : (r.chk == 0) = r.okB := by
  unfold Rb.chk Rb.okB
  by_cases h : 1 ≤ r.W ∧ r.W ≤ 64
  · rw [if_pos h]
    by_cases h2 : (r.v ||| r.x) &&& ~~~msk r.W.toNat = 0#64
    · simp [h, h2]
    · simp [h2]
  · rw [if_neg h]
    simp only [not_and] at h
    by_cases h1 : 1 ≤ r.W
    · simp [h1, h h1]
    · simp [h1]
set_option maxHeartbeats 400000 in
theorem check_lo (W : Int) (V X : BitVec 64) (w : World) (h : ¬ (1 ≤ W ∧ W ≤ 64)) : Calls Tryd.prog 46 #[.agg #[.int .i64 W, .int .u64 (U V), .int .u64 (U X)]] w fun e w' => e = .returned (.int .i64 2) ∧ Below w.heap.size w w' := by
  by_cases h1 : W < 1
  · go_enter Tryd.func46, Tryd.ntmps46
    go_wp2_with fail
    go_ret
    exact ⟨rfl, (Below.refl _ _).alloc (Nat.le_refl _) _⟩
  · have h2 : 64 < W := by omega
    go_enter Tryd.func46, Tryd.ntmps46
    go_wp2_with fail
    go_ret
    exact ⟨rfl, (Below.refl _ _).alloc (Nat.le_refl _) _⟩
set_option maxHeartbeats 400000 in
theorem check_bits (n : Nat) (V X : BitVec 64) (w : World) (h1 : 1 ≤ n) (h2 : n ≤ 64) (ht : ((V ||| X) &&& ~~~msk n != 0#64) = true) : Calls Tryd.prog 46 #[.agg #[.int .i64 n, .int .u64 (U V), .int .u64 (U X)]] w fun e w' => e = .returned (.int .i64 4) ∧ Below w.heap.size w w' := by
  go_enter Tryd.func46, Tryd.ntmps46
  go_wp2_with fail
  go_quiet ((go_at_call 36; exact Calls.quiet_of_same (mask_q _ h2 _)))
  go_wp2_with fail
  go_ret
  exact ⟨rfl, below_drewN ((Below.refl _ _).alloc (Nat.le_refl _) _) _⟩
theorem check_any (r : Rb) (w : World) : Calls Tryd.prog 46 #[.agg #[.int .i64 r.W, .int .u64 (U r.v), .int .u64 (U r.x)]] w fun e w' => e = .returned (.int .i64 r.chk) ∧ Below w.heap.size w w' := by
  obtain ⟨W, V, X⟩ := r
  unfold Rb.chk
  by_cases h : 1 ≤ W ∧ W ≤ 64
  · rw [if_pos h]
    obtain ⟨n, rfl⟩ : ∃ n : Nat, W = n := ⟨W.toNat, by omega⟩
    simp only [Int.toNat_natCast]
    by_cases h2 : (V ||| X) &&& ~~~msk n = 0#64
    · rw [if_pos h2]; exact check_ok n V X w (Ok.of_both (by omega) (by omega) (by simpa using h2))
    · rw [if_neg h2]; exact check_bits n V X w (by omega) (by omega) (by simpa using h2)
  · rw [if_neg h]; exact check_lo W V X w h
set_option maxHeartbeats 400000 in
theorem valid_any (r : Rb) (w : World) : Calls Tryd.prog 20 #[.agg #[.int .i64 r.W, .int .u64 (U r.v), .int .u64 (U r.x)]] w fun e w' => e = .returned (.bool r.okB) ∧ Below w.heap.size w w' := by
  have hk := Lib.hid r.chk_ok
  go_enter Tryd.func20, Tryd.ntmps20
  go_wp2_with fail
  refine (check_any r _).mono ?_
  rintro e w1 ⟨rfl, hb⟩
  go_wp2_with fail
  go_ret
  exact ⟨congrArg (fun b => Ending.returned (.bool b)) hk.out, ((Below.refl _ _).alloc (Nat.le_refl _) _).trans (hb.mono (by simp <;> omega))⟩
def alikeB (a b : Rb) : Bool := a.okB && b.okB && decide (a.W = b.W)
theorem valid_no (W : Int) (V X : BitVec 64) (w : World) (h : (⟨W, V, X⟩ : Rb).okB = false) : Calls Tryd.prog 20 #[.agg #[.int .i64 W, .int .u64 (U V), .int .u64 (U X)]] w fun e w' => e = .returned (.bool false) ∧ Below w.heap.size w w' := by
  have := valid_any ⟨W, V, X⟩ w; rw [h] at this; exact this
set_option maxHeartbeats 400000 in
theorem alike_a (W W' : Int) (V X V' X' : BitVec 64) (w : World) (h : (⟨W, V, X⟩ : Rb).okB = false) : Calls Tryd.prog 48 #[.agg #[.int .i64 W, .int .u64 (U V), .int .u64 (U X)], .agg #[.int .i64 W', .int .u64 (U V'), .int .u64 (U X')]] w fun e w' => e = .returned (.bool false) ∧ Below w.heap.size w w' := by
  go_enter Tryd.func48, Tryd.ntmps48
  go_wp2_with fail
  refine (valid_no W V X _ h).mono ?_
  rintro e w1 ⟨rfl, hb⟩
  obtain ⟨hc, hf⟩ := bcell hb
  go_wp2_with fail
  go_ret
  exact ⟨rfl, (((Below.refl _ _).alloc (Nat.le_refl _) _).alloc (by simp <;> omega) _).trans (hb.mono (by simp <;> omega))⟩
set_option maxHeartbeats 400000 in
theorem alike_b (n : Nat) (W' : Int) (V X V' X' : BitVec 64) (w : World) (hv : Ok n V X) (h : (⟨W', V', X'⟩ : Rb).okB = false) : Calls Tryd.prog 48 #[.agg #[.int .i64 n, .int .u64 (U V), .int .u64 (U X)], .agg #[.int .i64 W', .int .u64 (U V'), .int .u64 (U X')]] w fun e w' => e = .returned (.bool false) ∧ Below w.heap.size w w' := by
  go_enter Tryd.func48, Tryd.ntmps48
  go_wp2_with fail
  refine (valid_ok n V X _ hv).mono ?_
  rintro e w1 ⟨rfl, hb⟩
  obtain ⟨hc, hf⟩ := bcell hb
  have hz0 : w.heap.size < w1.heap.size := bsize hb (by simp <;> omega)
  have hz1 : w.heap.size + 1 < w1.heap.size := bsize hb (by simp <;> omega)
  go_wp2_with fail
  refine (valid_no W' V' X' _ h).mono ?_
  rintro e w2 ⟨rfl, hb2⟩
  obtain ⟨hc2, hf2⟩ := bcell hb2
  go_wp2_with fail
  go_ret
  exact ⟨rfl, (((((Below.refl _ _).alloc (Nat.le_refl _) _).alloc (by simp <;> omega) _).trans (hb.mono (by simp <;> omega))).trans (hb2.mono (by omega)))⟩
set_option maxHeartbeats 400000 in
theorem alike_w (n m : Nat) (V X V' X' : BitVec 64) (w : World) (hv : Ok n V X) (hv' : Ok m V' X') (hne : ((n : Int) == (m : Int)) = false) : Calls Tryd.prog 48 #[.agg #[.int .i64 n, .int .u64 (U V), .int .u64 (U X)], .agg #[.int .i64 m, .int .u64 (U V'), .int .u64 (U X')]] w fun e w' => e = .returned (.bool false) ∧ Below w.heap.size w w' := by
  have HN := Lib.hid hne
  clear hne
  go_enter Tryd.func48, Tryd.ntmps48
  go_wp2_with fail
  refine (valid_ok n V X _ hv).mono ?_
  rintro e w1 ⟨rfl, hb⟩
  obtain ⟨hc, hf⟩ := bcell hb
  have hz0 : w.heap.size < w1.heap.size := bsize hb (by simp <;> omega)
  have hz1 : w.heap.size + 1 < w1.heap.size := bsize hb (by simp <;> omega)
  go_wp2_with fail
  refine (valid_ok m V' X' _ hv').mono ?_
  rintro e w2 ⟨rfl, hb2⟩
  obtain ⟨hc2, hf2⟩ := bcell hb2
  go_wp2_with fail
  go_ret
  exact ⟨congrArg (fun b => Ending.returned (.bool b)) HN.out, (((((Below.refl _ _).alloc (Nat.le_refl _) _).alloc (by simp <;> omega) _).trans (hb.mono (by simp <;> omega))).trans (hb2.mono (by omega)))⟩
theorem alike_no (a b : Rb) (w : World) (h : alikeB a b = false) : Calls Tryd.prog 48 #[.agg #[.int .i64 a.W, .int .u64 (U a.v), .int .u64 (U a.x)], .agg #[.int .i64 b.W, .int .u64 (U b.v), .int .u64 (U b.x)]] w fun e w' => e = .returned (.bool false) ∧ Below w.heap.size w w' := by
  cases ha : a.okB
  · exact alike_a a.W b.W a.v a.x b.v b.x w ha
  · obtain ⟨n, e1, o1⟩ := Rb.ok_of ha
    cases hb : b.okB
    · rw [e1]; exact alike_b n b.W a.v a.x b.v b.x w o1 hb
    · obtain ⟨m, e2, o2⟩ := Rb.ok_of hb
      rw [e1, e2]
      refine alike_w n m a.v a.x b.v b.x w o1 o2 ?_
      simp only [alikeB, ha, hb, e1, e2, Bool.true_and, Bool.and_true] at h
      simpa using h
end Go.Proofs.YtgmgmkhcadimjaaDoor
