/- Words of 64 bits: what each operation on uint64 and int64, as the model computes it, is on bit vectors. No condition. -/
import Derived.WalkKit
import Derived.Laws.BitsAllLaws
namespace Go.Proofs.Ytcpifmhcebfglaa
open Go
set_option linter.unusedVariables false

/-- a uint64, as the number that the model holds -/
def U (a : BitVec 64) : Int := (a.toNat : Int)
/-- an int64 with these bits -/
def S (a : BitVec 64) : Int := a.toInt

theorem U_and (a b : BitVec 64) : bits .and .u64 (U a) (U b) = U (a &&& b) := by
  unfold U; rw [u64_and_nat _ _ a.isLt b.isLt, BitVec.toNat_and]
theorem U_or (a b : BitVec 64) : bits .or .u64 (U a) (U b) = U (a ||| b) := by
  unfold U; rw [u64_or_nat _ _ a.isLt b.isLt, BitVec.toNat_or]
theorem U_xor (a b : BitVec 64) : bits .xor .u64 (U a) (U b) = U (a ^^^ b) := by
  unfold U; rw [u64_xor_nat _ _ a.isLt b.isLt, BitVec.toNat_xor]
theorem U_andNot (a b : BitVec 64) : bits .andNot .u64 (U a) (U b) = U (a &&& ~~~b) := by
  unfold U; rw [u64_andNot_nat _ _ a.isLt b.isLt, BitVec.toNat_and, BitVec.toNat_not]
theorem U_and_one (a : BitVec 64) : bits .and .u64 (U a) 1 = U (a &&& 1#64) := U_and a 1#64
theorem U_add (a b : BitVec 64) : IntKind.u64.wrap (U a + U b) = U (a + b) := by
  unfold U; rw [IntKind.wrap_u64, BitVec.toNat_add]; omega
theorem U_sub (a b : BitVec 64) : IntKind.u64.wrap (U a - U b) = U (a - b) := by
  have ha := a.isLt
  have hb := b.isLt
  unfold U; rw [IntKind.wrap_u64, BitVec.toNat_sub]; omega
theorem U_mul (a b : BitVec 64) : IntKind.u64.wrap (U a * U b) = U (a * b) := by
  unfold U; rw [IntKind.wrap_u64, BitVec.toNat_mul]; simp
theorem U_shl (a : BitVec 64) (n : Nat) : IntKind.u64.wrap (U a * 2 ^ n) = U (a <<< n) := by
  unfold U; rw [IntKind.wrap_u64, BitVec.toNat_shiftLeft, Nat.shiftLeft_eq]; simp
theorem U_shr (a : BitVec 64) (n : Nat) : U a / 2 ^ n = U (a >>> n) := by
  unfold U; rw [BitVec.toNat_ushiftRight, Nat.shiftRight_eq_div_pow]; simp
theorem U_wf (a : BitVec 64) : (Lit.int .u64 (U a)).wf = true := WalkArith.wf_u64 (by have := a.isLt; unfold U; omega)
theorem S_wf (a : BitVec 64) : (Lit.int .i64 (S a)).wf = true := WalkArith.wf_i64 (by have := BitVec.le_toInt a; have := BitVec.toInt_lt (x := a); unfold S; omega)
theorem U_inj {a b : BitVec 64} : U a = U b ↔ a = b := by
  unfold U; constructor
  · intro h; exact BitVec.eq_of_toNat_eq (by omega)
  · rintro rfl; rfl
theorem U_zero {a : BitVec 64} : U a = 0 ↔ a = 0#64 := U_inj (b := 0#64)
theorem U_beq (a b : BitVec 64) : (U a == U b) = (a == b) := by
  rw [Bool.eq_iff_iff]; simp [U_inj]
theorem U_bne (a b : BitVec 64) : (U a != U b) = (a != b) := by
  rw [Bool.eq_iff_iff]; simp [U_inj]
theorem U_beq_zero (a : BitVec 64) : (U a == 0) = (a == 0#64) := U_beq a 0#64
theorem U_bne_zero (a : BitVec 64) : (U a != 0) = (a != 0#64) := U_bne a 0#64
theorem U_beq_one (a : BitVec 64) : (U a == 1) = (a == 1#64) := U_beq a 1#64
theorem U_bne_one (a : BitVec 64) : (U a != 1) = (a != 1#64) := U_bne a 1#64
theorem U_lt (a b : BitVec 64) : (U a < U b) ↔ a < b := by unfold U; rw [BitVec.lt_def]; omega
theorem U_le (a b : BitVec 64) : (U a ≤ U b) ↔ a ≤ b := by unfold U; rw [BitVec.le_def]; omega
theorem U_nonneg (a : BitVec 64) : 0 ≤ U a := by unfold U; omega
theorem S_of_U (a : BitVec 64) : IntKind.i64.wrap (U a) = S a := by
  have := a.isLt
  unfold U S; rw [IntKind.wrap_i64, BitVec.toInt_eq_toNat_cond]; split <;> omega
theorem U_of_S (a : BitVec 64) : IntKind.u64.wrap (S a) = U a := by
  have := a.isLt
  unfold U S; rw [IntKind.wrap_u64, BitVec.toInt_eq_toNat_cond]; split <;> omega
theorem S_shr (a : BitVec 64) (n : Nat) : S a / 2 ^ n = S (a.sshiftRight n) := by
  unfold S; rw [BitVec.toInt_sshiftRight, Int.shiftRight_eq_div_pow]; simp
theorem S_lt (a b : BitVec 64) : (S a < S b) ↔ a.slt b = true := by unfold S; rw [BitVec.slt_iff_toInt_lt]
theorem S_inj {a b : BitVec 64} : S a = S b ↔ a = b := by unfold S; exact BitVec.toInt_inj
/-- a shift by a count that is not negative -/
theorem shl_nat (a : BitVec 64) (yk : IntKind) (n : Nat) : Op.shift .shl .u64 (U a) yk (n : Int) = pure (.int .u64 (U (a <<< n))) := by
  have h : ¬ (n : Int) < 0 := by omega
  simp only [Op.shift, h, ↓reduceIte, Int.toNat_natCast]
  rw [U_shl]
  by_cases hn : n ≤ 64
  · rw [show min n IntKind.u64.bits = n from Nat.min_eq_left hn]
  · rw [show min n IntKind.u64.bits = 64 from Nat.min_eq_right (by show 64 ≤ n; omega), BitVec.shiftLeft_eq_zero (by omega), BitVec.shiftLeft_eq_zero (by omega)]
theorem shr_nat (a : BitVec 64) (yk : IntKind) (n : Nat) : Op.shift .shr .u64 (U a) yk (n : Int) = pure (.int .u64 (U (a >>> n))) := by
  have h : ¬ (n : Int) < 0 := by omega
  have hp : ∀ k : Nat, (0 : Int) ≤ 2 ^ k := fun k => Int.pow_nonneg (by decide)
  simp only [Op.shift, h, ↓reduceIte, Int.toNat_natCast]
  rw [Int.fdiv_eq_ediv_of_nonneg _ (hp _), U_shr]
  by_cases hn : n ≤ 64
  · rw [show min n IntKind.u64.bits = n from Nat.min_eq_left hn]
  · rw [show min n IntKind.u64.bits = 64 from Nat.min_eq_right (by show 64 ≤ n; omega), BitVec.ushiftRight_eq_zero (by omega), BitVec.ushiftRight_eq_zero (by omega)]
theorem shl_U (a n : BitVec 64) (yk : IntKind) : Op.shift .shl .u64 (U a) yk (U n) = pure (.int .u64 (U (a <<< n.toNat))) := shl_nat a yk n.toNat
theorem shr_U (a n : BitVec 64) (yk : IntKind) : Op.shift .shr .u64 (U a) yk (U n) = pure (.int .u64 (U (a >>> n.toNat))) := shr_nat a yk n.toNat

attribute [go_sem] U_and U_or U_xor U_andNot U_and_one U_add U_sub U_mul U_shl U_shr U_beq U_bne U_beq_zero U_bne_zero U_beq_one U_bne_one U_lt U_le S_of_U U_of_S S_shr S_lt shl_nat shr_nat shl_U shr_U

/-- the number whose lowest w bits are 1 -/
def msk (w : Nat) : BitVec 64 := (1#64 <<< w) - 1#64
end Go.Proofs.Ytcpifmhcebfglaa
