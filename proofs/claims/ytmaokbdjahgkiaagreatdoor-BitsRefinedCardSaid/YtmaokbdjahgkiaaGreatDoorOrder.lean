/- Signed numbers are compared like others whose highest bits are inverted. No program here. -/
import Derived.Test.YtmaokbdjahgkiaaGreatDoorOps2
namespace Go.Proofs.YtmaokbdjahgkiaaGreatDoor
open Go Go.RowKit
set_option linter.unusedVariables false
theorem xor_pow {m r : Nat} (h : r < 2 ^ m) : r ^^^ 2 ^ m = 2 ^ m + r := by
  apply Nat.eq_of_testBit_eq
  intro i
  rw [Nat.testBit_xor, Nat.testBit_two_pow]
  rcases Nat.lt_trichotomy i m with hi | hi | hi
  · rw [Nat.testBit_two_pow_add_gt hi]; simp [show ¬ m = i by omega]
  · subst hi; rw [Nat.testBit_two_pow_add_eq]; simp
  · have h1 : r < 2 ^ i := Nat.lt_trans h (Nat.pow_lt_pow_right (by decide) hi)
    have h2 : 2 ^ m + r < 2 ^ i := by
      have : 2 ^ (m + 1) ≤ 2 ^ i := Nat.pow_le_pow_right (by decide) hi
      rw [Nat.pow_succ] at this; omega
    rw [Nat.testBit_lt_two_pow h1, Nat.testBit_lt_two_pow h2]; simp; omega
theorem xor_top {n a : Nat} (h1 : 1 ≤ n) (h : a < 2 ^ n) : a ^^^ 2 ^ (n - 1) = if a < 2 ^ (n - 1) then 2 ^ (n - 1) + a else a - 2 ^ (n - 1) := by
  have hp : 2 ^ n = 2 ^ (n - 1) + 2 ^ (n - 1) := by
    have : n = (n - 1) + 1 := by omega
    rw [this, Nat.pow_succ]; simp; omega
  split
  · rename_i hl; exact xor_pow hl
  · rename_i hl
    obtain ⟨r, rfl⟩ : ∃ r, a = 2 ^ (n - 1) + r := ⟨a - 2 ^ (n - 1), by omega⟩
    have hr : r < 2 ^ (n - 1) := by omega
    rw [← xor_pow hr, Nat.xor_assoc, Nat.xor_self, Nat.xor_zero, xor_pow hr]; omega
theorem ext_toInt {n : Nat} (h1 : 1 ≤ n) (h2 : n ≤ 64) {v : BitVec 64} (hv : v.toNat < 2 ^ n) : (ext n v).toInt = if v.toNat < 2 ^ (n - 1) then (v.toNat : Int) else (v.toNat : Int) - 2 ^ n := by
  have hp : 2 ^ n = 2 ^ (n - 1) + 2 ^ (n - 1) := by
    have : n = (n - 1) + 1 := by omega
    rw [this, Nat.pow_succ]; simp; omega
  have hk : 2 ^ n * 2 ^ (64 - n) = 2 ^ 64 := by rw [← Nat.pow_add]; congr 1; omega
  have hk0 : 0 < 2 ^ (64 - n) := Nat.two_pow_pos _
  have hx : (v <<< (64 - n)).toNat = v.toNat * 2 ^ (64 - n) := by
    rw [BitVec.toNat_shiftLeft, Nat.shiftLeft_eq, Nat.mod_eq_of_lt]
    rw [← hk]; exact Nat.mul_lt_mul_of_pos_right hv hk0
  unfold ext
  rw [BitVec.toInt_sshiftRight, Int.shiftRight_eq_div_pow, BitVec.toInt_eq_toNat_cond, hx]
  have hc : 2 * (v.toNat * 2 ^ (64 - n)) < 2 ^ 64 ↔ v.toNat < 2 ^ (n - 1) := by
    rw [← hk, hp]
    constructor
    · intro h
      by_cases hc : v.toNat < 2 ^ (n - 1)
      · exact hc
      · have : 2 ^ (n - 1) * 2 ^ (64 - n) ≤ v.toNat * 2 ^ (64 - n) := Nat.mul_le_mul_right _ (by omega)
        rw [Nat.add_mul] at h; omega
    · intro h
      have : v.toNat * 2 ^ (64 - n) < 2 ^ (n - 1) * 2 ^ (64 - n) := Nat.mul_lt_mul_of_pos_right h hk0
      rw [Nat.add_mul]; omega
  have hkz : ((2 ^ (64 - n) : Nat) : Int) ≠ 0 := by omega
  by_cases hl : v.toNat < 2 ^ (n - 1)
  · rw [if_pos (hc.2 hl), if_pos hl]
    push_cast
    exact Int.mul_ediv_cancel _ (by simpa using hkz)
  · rw [if_neg (fun h => hl (hc.1 h)), if_neg hl]
    have e : ((v.toNat * 2 ^ (64 - n) : Nat) : Int) - ((2 ^ 64 : Nat) : Int) = ((v.toNat : Int) - 2 ^ n) * 2 ^ (64 - n) := by
      rw [← hk]; push_cast; rw [Int.sub_mul]
    rw [e]
    push_cast
    exact Int.mul_ediv_cancel _ (by simpa using hkz)
theorem slt_xor {n : Nat} (h1 : 1 ≤ n) (h2 : n ≤ 64) {a b t : BitVec 64} (ha : a.toNat < 2 ^ n) (hb : b.toNat < 2 ^ n) (ht : t.toNat = 2 ^ (n - 1)) :
    (ext n a).slt (ext n b) = decide ((a ^^^ t) < (b ^^^ t)) := by
  have hp : 2 ^ n = 2 ^ (n - 1) + 2 ^ (n - 1) := by
    have : n = (n - 1) + 1 := by omega
    rw [this, Nat.pow_succ]; simp; omega
  have hpi : (2 : Int) ^ n = ((2 ^ n : Nat) : Int) := by simp
  rw [Bool.eq_iff_iff, BitVec.slt_iff_toInt_lt, ext_toInt h1 h2 ha, ext_toInt h1 h2 hb, decide_eq_true_eq, BitVec.lt_def, BitVec.toNat_xor, BitVec.toNat_xor, ht, xor_top h1 ha, xor_top h1 hb, hpi]
  split <;> split <;> omega
theorem true_one (a : Vx) (w : World) (ha : a.ok 1) : Calls Tryz.prog 45 #[.agg #[.int .i64 1, .int .u64 (U a.v), .int .u64 (U a.x)]] w fun e w' => e = .returned (.int .i64 (tru a)) ∧ Below w.heap.size w w' := true_ok 1 a w ha
theorem lnot_one (a : Vx) (w : World) (ha : a.ok 1) : Calls Tryz.prog 22 #[.agg #[.int .i64 1, .int .u64 (U a.v), .int .u64 (U a.x)]] w fun e w' => e = .returned (.agg #[.int .i64 1, .int .u64 (U (vlnot a).v), .int .u64 (U (vlnot a).x)]) ∧ Below w.heap.size w w' := lnot_ok 1 a w ha
theorem tru_bd (a : Vx) : -1 ≤ tru a ∧ tru a ≤ 1 := by unfold tru; (repeat' split) <;> omega
theorem tru_tr (t : Bool) : tru (tr t) = if t then 1 else 0 := by cases t <;> decide
theorem sub_lt {n : Nat} {v : BitVec 64} (h : Sub n v) : v.toNat < 2 ^ n :=
  Nat.lt_pow_two_of_testBit _ fun i hi => by rw [BitVec.testBit_toNat]; exact h i hi
theorem three_way {n : Nat} {a b : Vx} (hx : a.x = 0#64) (hy : b.x = 0#64) : tru (vlt n false a b) + tru (veq a b) + tru (vlt n false b a) = 1 := by
  have e1 : vlt n false a b = tr (decide (a.v < b.v)) := by unfold vlt; rw [if_pos ⟨hx, hy⟩]; rfl
  have e2 : vlt n false b a = tr (decide (b.v < a.v)) := by unfold vlt; rw [if_pos ⟨hy, hx⟩]; rfl
  have e3 : veq a b = tr (decide (a.v = b.v)) := by
    have hd : diff1 a b &&& ~~~(a.x ||| b.x) = a.v ^^^ b.v := by
      have hz : ~~~(0#64 ||| 0#64 : BitVec 64) = BitVec.allOnes 64 := by decide
      unfold diff1; rw [hx, hy, hz, BitVec.and_allOnes]; simp
    have hz : a.x ||| b.x = 0#64 := by rw [hx, hy]; decide
    unfold veq
    rw [hd, hz]
    by_cases h : a.v = b.v
    · rw [h]; simp
    · have : ¬ a.v ^^^ b.v = 0#64 := fun e => h (by
        have := congrArg (· ^^^ b.v) e
        simpa [BitVec.xor_assoc] using this)
      rw [if_neg this]; simp [h]
  rw [e1, e2, e3, tru_tr, tru_tr, tru_tr]
  simp only [BitVec.lt_def, decide_eq_true_eq]
  by_cases h : a.v = b.v
  · rw [h]; simp
  · have hn : a.v.toNat ≠ b.v.toNat := fun e => h (BitVec.eq_of_toNat_eq e)
    simp only [h, if_false]
    split <;> split <;> omega
/-- the vector of the highest bit, as the law makes it -/
def topv (n : Nat) : Vx := vshl n (kv n 1#64) (kv 7 (BitVec.ofNat 64 (n - 1))).v.toNat
theorem topv_is : ∀ n, n < 65 → 1 ≤ n → (topv n).v.toNat = 2 ^ (n - 1) ∧ (topv n).x = 0#64 := by decide +kernel
theorem vxor_known {n : Nat} {a b : Vx} (ha : a.ok n) (hb : b.ok n) (hx : a.x = 0#64) (hy : b.x = 0#64) : vxor n a b = ⟨a.v ^^^ b.v, 0#64⟩ := by
  refine Vx.same (vxor_ok ha hb) (ok_mk ha.lo ha.hi (sub_xor ha.subv hb.subv) (sub_zero n)) fun i hi => ?_
  rw [(vxor_bit ha.hi a b hi).1, (vxor_bit ha.hi a b hi).2, hx, hy]
  simp [BitVec.getLsbD_xor]
theorem vshl_ok {n : Nat} (h1 : 1 ≤ n) (h2 : n ≤ 64) (a : Vx) (k : Nat) : (vshl n a k).ok n := ok_mk h1 h2 (sub_and' (sub_msk h2)) (sub_and' (sub_msk h2))
theorem shl_top (n : Nat) (w : World) (h1 : 1 ≤ n) (h2 : n ≤ 64) : Calls Tryz.prog 29 #[.agg #[.int .i64 n, .int .u64 (U (kv n 1#64).v), .int .u64 (U (kv n 1#64).x)], .agg #[.int .i64 7, .int .u64 (U (kv 7 (BitVec.ofNat 64 (n - 1))).v), .int .u64 (U (kv 7 (BitVec.ofNat 64 (n - 1))).x)]] w
    fun e w' => e = .returned (.agg #[.int .i64 n, .int .u64 (U (topv n).v), .int .u64 (U (topv n).x)]) ∧ Below w.heap.size w w' :=
  shl_ok n 7 (kv n 1#64) (kv 7 (BitVec.ofNat 64 (n - 1))) w (kv_ok h1 h2 _) (kv_ok (by decide) (by decide) _) rfl
theorem signed_way {n : Nat} {a b : Vx} (ha : a.ok n) (hb : b.ok n) (hx : a.x = 0#64) (hy : b.x = 0#64) : vlt n true a b = vlt n false (vxor n a (topv n)) (vxor n b (topv n)) := by
  have h1 := ha.lo
  have h2 := ha.hi
  obtain ⟨t1, t2⟩ := topv_is n (by omega) h1
  have ht : (topv n).ok n := vshl_ok h1 h2 _ _
  rw [vxor_known ha ht hx t2, vxor_known hb ht hy t2]
  unfold vlt
  rw [if_pos ⟨hx, hy⟩, if_pos ⟨rfl, rfl⟩]
  show tr ((ext n a.v).slt (ext n b.v)) = tr (decide ((a.v ^^^ (topv n).v) < (b.v ^^^ (topv n).v)))
  rw [slt_xor h1 h2 (sub_lt ha.subv) (sub_lt hb.subv) t1]
end Go.Proofs.YtmaokbdjahgkiaaGreatDoor
