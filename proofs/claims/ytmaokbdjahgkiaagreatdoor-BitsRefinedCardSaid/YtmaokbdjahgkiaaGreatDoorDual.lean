/- What BitsDual calls besides: OnesCount64, RedXor, Slice. -/
import Derived.Test.YtmaokbdjahgkiaaGreatDoorRed
namespace Go.Proofs.YtmaokbdjahgkiaaGreatDoor
open Go Go.RowKit
set_option linter.unusedVariables false
theorem U_m0 (a : BitVec 64) : bits .and .u64 (U a) 6148914691236517205 = U (a &&& 6148914691236517205#64) := (congrArg (bits .and .u64 (U a)) (show (6148914691236517205 : Int) = U 6148914691236517205#64 by unfold U; rw [BitVec.toNat_ofNat]; rfl)).trans (U_and a _)
theorem U_m1 (a : BitVec 64) : bits .and .u64 (U a) 3689348814741910323 = U (a &&& 3689348814741910323#64) := (congrArg (bits .and .u64 (U a)) (show (3689348814741910323 : Int) = U 3689348814741910323#64 by unfold U; rw [BitVec.toNat_ofNat]; rfl)).trans (U_and a _)
theorem U_m2 (a : BitVec 64) : bits .and .u64 (U a) 1085102592571150095 = U (a &&& 1085102592571150095#64) := (congrArg (bits .and .u64 (U a)) (show (1085102592571150095 : Int) = U 1085102592571150095#64 by unfold U; rw [BitVec.toNat_ofNat]; rfl)).trans (U_and a _)
theorem U_d1 (a : BitVec 64) : U a / (2 : Int) = U (a >>> 1) := U_shr a 1
theorem U_d2 (a : BitVec 64) : U a / (4 : Int) = U (a >>> 2) := U_shr a 2
theorem U_d4 (a : BitVec 64) : U a / (16 : Int) = U (a >>> 4) := U_shr a 4
theorem U_d8 (a : BitVec 64) : U a / (256 : Int) = U (a >>> 8) := U_shr a 8
theorem U_d16 (a : BitVec 64) : U a / (65536 : Int) = U (a >>> 16) := U_shr a 16
theorem U_d32 (a : BitVec 64) : U a / (4294967296 : Int) = U (a >>> 32) := U_shr a 32
attribute [local go_sem] U_m0 U_m1 U_m2 U_d1 U_d2 U_d4 U_d8 U_d16 U_d32
def w1 (a : BitVec 64) : BitVec 64 := (a >>> 1 &&& 6148914691236517205#64) + (a &&& 6148914691236517205#64)
def w2 (a : BitVec 64) : BitVec 64 := (a >>> 2 &&& 3689348814741910323#64) + (a &&& 3689348814741910323#64)
def w3 (a : BitVec 64) : BitVec 64 := (a >>> 4 + a) &&& 1085102592571150095#64
def w4 (a : BitVec 64) : BitVec 64 := a + a >>> 8
def w5 (a : BitVec 64) : BitVec 64 := a + a >>> 16
def w6 (a : BitVec 64) : BitVec 64 := a + a >>> 32
theorem S_and127 (a : BitVec 64) : bits .and .i64 (S a) 127 = ((a.toNat % 128 : Nat) : Int) := by
  have e : a &&& 127#64 = BitVec.ofNat 64 (a.toNat % 128) := by
    apply BitVec.eq_of_toNat_eq
    rw [BitVec.toNat_and, show BitVec.toNat 127#64 = 2 ^ 7 - 1 from rfl, Nat.and_two_pow_sub_one_eq_mod, BitVec.toNat_ofNat]
    omega
  show IntKind.i64.wrap ((BitVec.ofInt 64 (S a) &&& BitVec.ofInt 64 127).toNat : Int) = _
  rw [show BitVec.ofInt 64 (S a) = a from BitVec.ofInt_toInt, show BitVec.ofInt 64 127 = 127#64 from rfl, e, BitVec.toNat_ofNat, IntKind.wrap_i64]
  omega
theorem shr_nat' (a : BitVec 64) (k : Nat) : (a >>> k).toNat = a.toNat / 2 ^ k := by
  rw [BitVec.toNat_ushiftRight, Nat.shiftRight_eq_div_pow]
theorem w1_nat (a : BitVec 64) : (w1 a).toNat = G (mk 85 8) 2 a.toNat % 2 ^ 64 := by
  unfold w1 G
  rw [BitVec.toNat_add, BitVec.toNat_and, BitVec.toNat_and, shr_nat']
  rfl
theorem w2_nat (a : BitVec 64) : (w2 a).toNat = G (mk 51 8) 4 a.toNat % 2 ^ 64 := by
  unfold w2 G
  rw [BitVec.toNat_add, BitVec.toNat_and, BitVec.toNat_and, shr_nat']
  rfl
theorem w12_nat (a : BitVec 64) : (w2 (w1 a)).toNat = by_ s12 8 a.toNat := by
  have h1 := by_lt s1 (fun y hy => (c3 y hy).1) 8 a.toNat
  have h2 := by_lt s12 (fun y hy => (c3 y hy).2.1) 8 a.toNat
  have e1 : (w1 a).toNat = by_ s1 8 a.toNat := by
    rw [w1_nat, g1 8 _ a.isLt]; exact Nat.mod_eq_of_lt h1
  rw [w2_nat, e1, g2 8 _ h1, by_mod s1 s2 (fun y hy => (c3 y hy).1) 8]
  exact Nat.mod_eq_of_lt h2
theorem low4 : ∀ y, y < 256 → s12 y ≤ 68 := by decide +kernel
theorem by_bd : ∀ (n x : Nat), by_ s12 (n + 1) x < 69 * 256 ^ n
  | 0, x => by
    have k := low4 (x % 256) (by omega)
    show s12 (x % 256) + 256 * 0 < 69 * 256 ^ 0
    omega
  | n + 1, x => by
    have k := low4 (x % 256) (by omega)
    have m := by_bd n (x / 256)
    show s12 (x % 256) + 256 * by_ s12 (n + 1) (x / 256) < 69 * 256 ^ (n + 1)
    rw [Nat.pow_succ]
    omega
theorem w123_nat (a : BitVec 64) : (w3 (w2 (w1 a))).toNat = H (mk 15 8) (G (mk 51 8) 4 (G (mk 85 8) 2 a.toNat)) := by
  have b : by_ s12 8 a.toNat < 69 * 256 ^ 7 := by_bd 7 a.toNat
  rw [g123 _ a.isLt, ← g3 8 a.toNat]
  unfold w3 H
  rw [BitVec.toNat_and, BitVec.toNat_add, shr_nat', w12_nat, Nat.mod_eq_of_lt (by omega)]
  rfl
theorem wpar (a : BitVec 64) : decide ((w6 (w5 (w4 (w3 (w2 (w1 a)))))).toNat % 128 % 2 = 1) = par a 64 := by
  refine pop_par a (w3 (w2 (w1 a))).toNat (w4 (w3 (w2 (w1 a)))).toNat (w5 (w4 (w3 (w2 (w1 a))))).toNat _ (w123_nat a) ?_ ?_ ?_
  · unfold w4; rw [BitVec.toNat_add, shr_nat']
  · unfold w5; rw [BitVec.toNat_add, shr_nat']
  · unfold w6; rw [BitVec.toNat_add, shr_nat']
set_option maxRecDepth 100000 in
set_option maxHeartbeats 400000 in
theorem ones_any (a : BitVec 64) (w : World) : Calls Tryz.prog 49 #[.int .u64 (U a)] w fun e w' => (∃ k : Nat, e = .returned (.int .i64 k) ∧ k ≤ 127 ∧ decide (k % 2 = 1) = par a 64) ∧ Below w.heap.size w w' := by
  go_enter Tryz.func49, Tryz.ntmps49
  go_wp2_with fail
  go_ret
  have hX := congrArg (fun z => Ending.returned (Value.int .i64 z)) (S_and127 (w6 (w5 (w4 (w3 (w2 (w1 a)))))))
  have hW := wpar a
  unfold w6 w5 w4 w3 w2 w1 at hX hW
  exact ⟨⟨_, hX, by omega, hW⟩, by (repeat (first | exact Below.refl _ _ | exact Nat.le_refl _ | refine below_drewN ?_ _ | refine Below.drew ?_ | refine Below.alloc ?_ ?_ _ | refine Below.setCell ?_ ?_ _ | refine below_step (by assumption) ?_ ?_)) <;> (first | omega | (simp <;> omega))⟩
set_option maxHeartbeats 400000 in
theorem redxor_x (n : Nat) (a : Vx) (w : World) (ha : a.ok n) (hx : (a.x == 0#64) = false) : Calls Tryz.prog 21 #[.agg #[.int .i64 n, .int .u64 (U a.v), .int .u64 (U a.x)]] w fun e w' => e = .returned (.agg #[.int .i64 1, .int .u64 (U (fl 1 3).v), .int .u64 (U (fl 1 3).x)]) ∧ Below w.heap.size w w' := by
  go_enter Tryz.func21, Tryz.ntmps21
  go_wp2_with fail
  refine (valid_ok n a.v a.x _ ha).mono ?_
  rintro e w1 ⟨rfl, hb1⟩
  obtain ⟨hc1, hf1⟩ := bcell hb1
  have z1_0 : w.heap.size < w1.heap.size := bsize hb1 (by first | omega | (simp <;> omega))
  have z1_1 : w.heap.size + 1 < w1.heap.size := bsize hb1 (by first | omega | (simp <;> omega))
  go_wp2_with fail
  refine (known_no n a _ ha hx).mono ?_
  rintro e w2 ⟨rfl, hb2⟩
  obtain ⟨hc2, hf2⟩ := bcell hb2
  have z2_0 : w.heap.size < w2.heap.size := bsize hb2 (by first | omega | (simp <;> omega))
  have z2_1 : w.heap.size + 1 < w2.heap.size := bsize hb2 (by first | omega | (simp <;> omega))
  go_wp2_with fail
  refine (all_x 1 _ (by decide) (by decide)).mono ?_
  rintro e w3 ⟨rfl, hb3⟩
  obtain ⟨hc3, hf3⟩ := bcell hb3
  have z3_0 : w.heap.size < w3.heap.size := bsize hb3 (by first | omega | (simp <;> omega))
  have z3_1 : w.heap.size + 1 < w3.heap.size := bsize hb3 (by first | omega | (simp <;> omega))
  go_wp2_with fail
  exact bodyPost_ret (v := .agg #[.int .i64 1, .int .u64 (U (fl 1 3).v), .int .u64 (U (fl 1 3).x)]) (by simp [results, Tryz.results21, go_sem, hc1, z1_1, hc2, z2_1, hc3] <;> first | rfl | exact ⟨rfl, rfl⟩ | exact ⟨rfl, rfl, rfl⟩) rfl ⟨rfl, by (repeat (first | exact Below.refl _ _ | exact Nat.le_refl _ | refine below_drewN ?_ _ | refine Below.drew ?_ | refine Below.alloc ?_ ?_ _ | refine Below.setCell ?_ ?_ _ | refine below_step (by assumption) ?_ ?_)) <;> (first | omega | (simp <;> omega))⟩
set_option maxHeartbeats 400000 in
theorem redxor_k (n : Nat) (a : Vx) (w : World) (ha : a.ok n) (hx : (a.x == 0#64) = true) : Calls Tryz.prog 21 #[.agg #[.int .i64 n, .int .u64 (U a.v), .int .u64 (U a.x)]] w fun e w' => e = .returned (.agg #[.int .i64 1, .int .u64 (U (tr (par a.v 64)).v), .int .u64 (U (tr (par a.v 64)).x)]) ∧ Below w.heap.size w w' := by
  go_enter Tryz.func21, Tryz.ntmps21
  go_wp2_with fail
  refine (valid_ok n a.v a.x _ ha).mono ?_
  rintro e w1 ⟨rfl, hb1⟩
  obtain ⟨hc1, hf1⟩ := bcell hb1
  have z1_0 : w.heap.size < w1.heap.size := bsize hb1 (by first | omega | (simp <;> omega))
  have z1_1 : w.heap.size + 1 < w1.heap.size := bsize hb1 (by first | omega | (simp <;> omega))
  go_wp2_with fail
  refine (known_yes n a _ ha hx).mono ?_
  rintro e w2 ⟨rfl, hb2⟩
  obtain ⟨hc2, hf2⟩ := bcell hb2
  have z2_0 : w.heap.size < w2.heap.size := bsize hb2 (by first | omega | (simp <;> omega))
  have z2_1 : w.heap.size + 1 < w2.heap.size := bsize hb2 (by first | omega | (simp <;> omega))
  go_wp2_with fail
  refine (ones_any a.v _).mono ?_
  rintro e w3 ⟨⟨k, rfl, hk, hp⟩, hb3⟩
  obtain ⟨hc3, hf3⟩ := bcell hb3
  have z3_0 : w.heap.size < w3.heap.size := bsize hb3 (by first | omega | (simp <;> omega))
  have z3_1 : w.heap.size + 1 < w3.heap.size := bsize hb3 (by first | omega | (simp <;> omega))
  have ek : ((k : Int) % 2 == 1) = par a.v 64 := by
    rw [← hp, Bool.eq_iff_iff]; simp; omega
  go_wp2_with fail
  refine (truth_ok (par a.v 64) _).mono ?_
  rintro e w4 ⟨rfl, hb4⟩
  obtain ⟨hc4, hf4⟩ := bcell hb4
  go_wp2_with fail
  exact bodyPost_ret (v := .agg #[.int .i64 1, .int .u64 (U (tr (par a.v 64)).v), .int .u64 (U (tr (par a.v 64)).x)]) (by simp [results, Tryz.results21, go_sem, hc1, z1_1, hc2, z2_1, hc3, z3_1, hc4] <;> first | rfl | exact ⟨rfl, rfl⟩ | exact ⟨rfl, rfl, rfl⟩) rfl ⟨rfl, by (repeat (first | exact Below.refl _ _ | exact Nat.le_refl _ | refine below_drewN ?_ _ | refine Below.drew ?_ | refine Below.alloc ?_ ?_ _ | refine Below.setCell ?_ ?_ _ | refine below_step (by assumption) ?_ ?_)) <;> (first | omega | (simp <;> omega))⟩
theorem redxor_ok' (n : Nat) (a : Vx) (w : World) (ha : a.ok n) : Calls Tryz.prog 21 #[.agg #[.int .i64 n, .int .u64 (U a.v), .int .u64 (U a.x)]] w fun e w' => e = .returned (.agg #[.int .i64 1, .int .u64 (U (vredxor a).v), .int .u64 (U (vredxor a).x)]) ∧ Below w.heap.size w w' := by
  unfold vredxor
  by_cases hx : a.x = 0#64
  · rw [if_pos hx]; exact redxor_k n a w ha (by simpa using hx)
  · rw [if_neg hx]; exact redxor_x n a w ha (by simpa using hx)
end Go.Proofs.YtmaokbdjahgkiaaGreatDoor
