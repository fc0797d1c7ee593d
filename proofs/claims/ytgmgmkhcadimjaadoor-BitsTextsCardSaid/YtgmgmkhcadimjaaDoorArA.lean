/- Numbers modulo 2^n: the laws that sums, products, quotients and shifts of vectors obey. No program here.
   Signed numbers are compared like others whose highest bits are inverted. No program here.
   Shifts of vectors, joined. No program here. -/
import Derived.Test.YtgmgmkhcadimjaaDoorBit
import Derived.Test.YtgmgmkhcadimjaaDoorOps2
namespace Go.Proofs.YtgmgmkhcadimjaaDoor
open Go Go.RowKit
set_option linter.unusedVariables false
theorem pow_dvd64 {n : Nat} (h : n ≤ 64) : 2 ^ n ∣ 2 ^ 64 := Nat.pow_dvd_pow 2 h
theorem and_msk_toNat {n : Nat} (h : n ≤ 64) (v : BitVec 64) : (v &&& msk n).toNat = v.toNat % 2 ^ n := by
  rw [BitVec.toNat_and, msk_toNat n h, Nat.and_two_pow_sub_one_eq_mod]
theorem kv_eq {n : Nat} (h : n ≤ 64) {u v : BitVec 64} (e : u.toNat % 2 ^ n = v.toNat % 2 ^ n) : kv n u = kv n v := by
  unfold kv; congr 1; apply BitVec.eq_of_toNat_eq; rw [and_msk_toNat h, and_msk_toNat h, e]
theorem kv_mod {n : Nat} (h : n ≤ 64) {u v : BitVec 64} (e : kv n u = kv n v) : u.toNat % 2 ^ n = v.toNat % 2 ^ n := by
  have := congrArg (fun a : Vx => a.v.toNat) e
  simpa only [kv, and_msk_toNat h] using this
theorem kv_kv {n : Nat} (h : n ≤ 64) (v : BitVec 64) : kv n (kv n v).v = kv n v := kv_eq h (by simp only [kv, and_msk_toNat h, Nat.mod_mod])
theorem kv_self {n : Nat} {a : Vx} (ha : a.ok n) (hx : a.x = 0#64) : kv n a.v = a := by
  refine Vx.same (kv_ok ha.lo ha.hi _) ha ?_
  intro i hi
  simp [kv, msk_bit ha.hi, hi, hx]
theorem add_mod {n : Nat} (h : n ≤ 64) (u v : BitVec 64) : (u + v).toNat % 2 ^ n = (u.toNat % 2 ^ n + v.toNat % 2 ^ n) % 2 ^ n := by
  rw [BitVec.toNat_add, Nat.mod_mod_of_dvd _ (pow_dvd64 h), Nat.add_mod]
theorem mul_mod {n : Nat} (h : n ≤ 64) (u v : BitVec 64) : (u * v).toNat % 2 ^ n = (u.toNat % 2 ^ n * (v.toNat % 2 ^ n)) % 2 ^ n := by
  rw [BitVec.toNat_mul, Nat.mod_mod_of_dvd _ (pow_dvd64 h), Nat.mul_mod]
theorem kv_add {n : Nat} (h : n ≤ 64) {u u' v v' : BitVec 64} (hu : kv n u = kv n u') (hv : kv n v = kv n v') : kv n (u + v) = kv n (u' + v') :=
  kv_eq h (by rw [add_mod h, add_mod h, kv_mod h hu, kv_mod h hv])
theorem kv_mul {n : Nat} (h : n ≤ 64) {u u' v v' : BitVec 64} (hu : kv n u = kv n u') (hv : kv n v = kv n v') : kv n (u * v) = kv n (u' * v') :=
  kv_eq h (by rw [mul_mod h, mul_mod h, kv_mod h hu, kv_mod h hv])
theorem kv_ext {n : Nat} (h1 : 1 ≤ n) (h : n ≤ 64) (v : BitVec 64) : kv n (ext n v) = kv n v := by
  refine Vx.same (kv_ok h1 h _) (kv_ok h1 h _) ?_
  intro i hi
  simp only [kv, BitVec.getLsbD_and, msk_bit h, hi, decide_true, Bool.and_true, and_true]
  unfold ext
  rw [BitVec.getLsbD_sshiftRight]
  have h3 : 64 - n + i < 64 := by omega
  simp only [show ¬ 64 ≤ i by omega, decide_false, Bool.not_false, Bool.true_and, h3, ↓reduceIte, BitVec.getLsbD_shiftLeft, decide_true, show ¬ 64 - n + i < 64 - n by omega]
  congr 1; omega
/-- the result of an operation on numbers; without both numbers all bits are x -/
def vop (n : Nat) (f : BitVec 64 → BitVec 64 → BitVec 64) (a b : Vx) : Vx := if a.x = 0#64 ∧ b.x = 0#64 then kv n (f a.v b.v) else fl n 3
theorem vop_ok {n : Nat} (h1 : 1 ≤ n) (h2 : n ≤ 64) (f : BitVec 64 → BitVec 64 → BitVec 64) (a b : Vx) : (vop n f a b).ok n := by
  unfold vop; split
  · exact kv_ok h1 h2 _
  · exact fl_ok h1 h2 3
theorem vop_kv {n : Nat} (f : BitVec 64 → BitVec 64 → BitVec 64) {a b : Vx} (hx : a.x = 0#64) (hy : b.x = 0#64) : vop n f a b = kv n (f a.v b.v) := if_pos ⟨hx, hy⟩
/-- a quotient and a remainder, without and with signs -/
def qt (n : Nat) (s : Bool) (x y : BitVec 64) : BitVec 64 := if s then BitVec.ofInt 64 ((ext n x).toInt.tdiv (ext n y).toInt) else x / y
def rm (n : Nat) (s : Bool) (x y : BitVec 64) : BitVec 64 := if s then BitVec.ofInt 64 ((ext n x).toInt.tmod (ext n y).toInt) else x % y
def vdvd (n : Nat) (f : BitVec 64 → BitVec 64 → BitVec 64) (a b : Vx) : Vx := if b.v = 0#64 then fl n 3 else vop n f a b
theorem vdvd_ok {n : Nat} (h1 : 1 ≤ n) (h2 : n ≤ 64) (f : BitVec 64 → BitVec 64 → BitVec 64) (a b : Vx) : (vdvd n f a b).ok n := by
  unfold vdvd; split
  · exact fl_ok h1 h2 3
  · exact vop_ok h1 h2 f a b
theorem law_sub {n : Nat} {a b : Vx} (ha : a.ok n) (hb : b.ok n) (hx : a.x = 0#64) (hy : b.x = 0#64) : vop n (· + ·) (vop n (· - ·) a b) b = a := by
  rw [vop_kv (· - ·) hx hy, vop_kv _ rfl hy]
  rw [kv_add ha.hi (kv_kv ha.hi _) rfl, BitVec.sub_add_cancel, kv_self ha hx]
theorem law_mul {n : Nat} {a b c : Vx} (h : n ≤ 64) (hx : a.x = 0#64) (hy : b.x = 0#64) (hz : c.x = 0#64) :
    vop n (· * ·) a (vop n (· + ·) b c) = vop n (· + ·) (vop n (· * ·) a b) (vop n (· * ·) a c) := by
  rw [vop_kv (· + ·) hy hz, vop_kv (· * ·) hx hy, vop_kv (· * ·) hx hz, vop_kv _ hx rfl, vop_kv _ rfl rfl]
  rw [kv_mul h rfl (kv_kv h _), kv_add h (kv_kv h _) (kv_kv h _), BitVec.mul_add]
theorem div_back {n : Nat} {a b : Vx} (s : Bool) (ha : a.ok n) (hb : b.ok n) : kv n (qt n s a.v b.v * b.v + rm n s a.v b.v) = kv n a.v := by
  have h1 := ha.lo
  have h := ha.hi
  cases s
  · have e : a.v / b.v * b.v + a.v % b.v = a.v := by
      apply BitVec.eq_of_toNat_eq
      have d := Nat.div_add_mod a.v.toNat b.v.toNat
      rw [Nat.mul_comm] at d
      have := a.v.isLt
      rw [BitVec.toNat_add, BitVec.toNat_mul, BitVec.toNat_udiv, BitVec.toNat_umod, Nat.mod_eq_of_lt (a := _ * _) (by omega), d, Nat.mod_eq_of_lt (by omega)]
    exact congrArg (kv n) e
  · have e : qt n true a.v b.v * ext n b.v + rm n true a.v b.v = ext n a.v := by
      simp only [qt, rm, ↓reduceIte]
      generalize ext n a.v = x
      generalize ext n b.v = y
      have d := Int.tdiv_mul_add_tmod x.toInt y.toInt
      conv => rhs; rw [← BitVec.ofInt_toInt (x := x), ← d]
      rw [BitVec.ofInt_add, BitVec.ofInt_mul, BitVec.ofInt_toInt]
    rw [kv_add h (kv_mul h rfl (kv_ext h1 h b.v).symm) rfl, e, kv_ext h1 h]
theorem law_div {n : Nat} {a b : Vx} (s : Bool) (ha : a.ok n) (hb : b.ok n) (hx : a.x = 0#64) (hy : b.x = 0#64) (h0 : b.v ≠ 0#64) :
    vop n (· + ·) (vop n (· * ·) (vdvd n (qt n s) a b) b) (vdvd n (rm n s) a b) = a := by
  unfold vdvd; rw [if_neg h0, if_neg h0, vop_kv (qt n s) hx hy, vop_kv (rm n s) hx hy, vop_kv (· * ·) rfl hy, vop_kv _ rfl rfl]
  rw [kv_add ha.hi (Eq.trans (kv_kv ha.hi _) (kv_mul ha.hi (kv_kv ha.hi _) rfl)) (kv_kv ha.hi _), div_back s ha hb, kv_self ha hx]
theorem law_zero {n : Nat} (f g : BitVec 64 → BitVec 64 → BitVec 64) {a b : Vx} (h0 : b.v = 0#64) : vdvd n f a b = fl n 3 := if_pos h0
end Go.Proofs.YtgmgmkhcadimjaaDoor
namespace Go.Proofs.YtgmgmkhcadimjaaDoor
open Go Go.RowKit
set_option linter.unusedVariables false
theorem xor_pow {m r : Nat} (h : r < 2 ^ m) : r ^^^ 2 ^ m = 2 ^ m + r := by
  apply Nat.eq_of_testBit_eq
  intro i
  rw [Nat.testBit_xor, Nat.testBit_two_pow]
  rcases Nat.lt_trichotomy i m with hi | hi | hi
  · rw [Nat.testBit_two_pow_add_gt hi]; simp [show ¬ m = i by omega]
  · subst hi; rw [Nat.testBit_two_pow_add_eq]; simp
  · have h1 : r < 2 ^ i := Nat.lt_trans h (Nat.pow_lt_pow_right (by decide) hi)
    have h2 : 2 ^ m + r < 2 ^ i := by
      have : 2 ^ (m + 1) ≤ 2 ^ i := Nat.pow_le_pow_right (by decide) hi
      rw [Nat.pow_succ] at this; omega
    rw [Nat.testBit_lt_two_pow h1, Nat.testBit_lt_two_pow h2]; simp; omega
theorem xor_top {n a : Nat} (h1 : 1 ≤ n) (h : a < 2 ^ n) : a ^^^ 2 ^ (n - 1) = if a < 2 ^ (n - 1) then 2 ^ (n - 1) + a else a - 2 ^ (n - 1) := by
  have hp : 2 ^ n = 2 ^ (n - 1) + 2 ^ (n - 1) := by
    have : n = (n - 1) + 1 := by omega
    rw [this, Nat.pow_succ]; simp; omega
  split
  · rename_i hl; exact xor_pow hl
  · rename_i hl
    obtain ⟨r, rfl⟩ : ∃ r, a = 2 ^ (n - 1) + r := ⟨a - 2 ^ (n - 1), by omega⟩
    have hr : r < 2 ^ (n - 1) := by omega
    rw [← xor_pow hr, Nat.xor_assoc, Nat.xor_self, Nat.xor_zero, xor_pow hr]; omega
theorem ext_toInt {n : Nat} (h1 : 1 ≤ n) (h2 : n ≤ 64) {v : BitVec 64} (hv : v.toNat < 2 ^ n) : (ext n v).toInt = if v.toNat < 2 ^ (n - 1) then (v.toNat : Int) else (v.toNat : Int) - 2 ^ n := by
  have hp : 2 ^ n = 2 ^ (n - 1) + 2 ^ (n - 1) := by
    have : n = (n - 1) + 1 := by omega
    rw [this, Nat.pow_succ]; simp; omega
  have hk : 2 ^ n * 2 ^ (64 - n) = 2 ^ 64 := by rw [← Nat.pow_add]; congr 1; omega
  have hk0 : 0 < 2 ^ (64 - n) := Nat.two_pow_pos _
  have hx : (v <<< (64 - n)).toNat = v.toNat * 2 ^ (64 - n) := by
    rw [BitVec.toNat_shiftLeft, Nat.shiftLeft_eq, Nat.mod_eq_of_lt]
    rw [← hk]; exact Nat.mul_lt_mul_of_pos_right hv hk0
  unfold ext
  rw [BitVec.toInt_sshiftRight, Int.shiftRight_eq_div_pow, BitVec.toInt_eq_toNat_cond, hx]
  have hc : 2 * (v.toNat * 2 ^ (64 - n)) < 2 ^ 64 ↔ v.toNat < 2 ^ (n - 1) := by
    rw [← hk, hp]
    constructor
    · intro h
      by_cases hc : v.toNat < 2 ^ (n - 1)
      · exact hc
      · have : 2 ^ (n - 1) * 2 ^ (64 - n) ≤ v.toNat * 2 ^ (64 - n) := Nat.mul_le_mul_right _ (by omega)
        rw [Nat.add_mul] at h; omega
    · intro h
      have : v.toNat * 2 ^ (64 - n) < 2 ^ (n - 1) * 2 ^ (64 - n) := Nat.mul_lt_mul_of_pos_right h hk0
      rw [Nat.add_mul]; omega
  have hkz : ((2 ^ (64 - n) : Nat) : Int) ≠ 0 := by omega
  by_cases hl : v.toNat < 2 ^ (n - 1)
  · rw [if_pos (hc.2 hl), if_pos hl]
    push_cast
    exact Int.mul_ediv_cancel _ (by simpa using hkz)
  · rw [if_neg (fun h => hl (hc.1 h)), if_neg hl]
    have e : ((v.toNat * 2 ^ (64 - n) : Nat) : Int) - ((2 ^ 64 : Nat) : Int) = ((v.toNat : Int) - 2 ^ n) * 2 ^ (64 - n) := by
      rw [← hk]; push_cast; rw [Int.sub_mul]
    rw [e]
    push_cast
    exact Int.mul_ediv_cancel _ (by simpa using hkz)
theorem slt_xor {n : Nat} (h1 : 1 ≤ n) (h2 : n ≤ 64) {a b t : BitVec 64} (ha : a.toNat < 2 ^ n) (hb : b.toNat < 2 ^ n) (ht : t.toNat = 2 ^ (n - 1)) :
    (ext n a).slt (ext n b) = decide ((a ^^^ t) < (b ^^^ t)) := by
  have hp : 2 ^ n = 2 ^ (n - 1) + 2 ^ (n - 1) := by
    have : n = (n - 1) + 1 := by omega
    rw [this, Nat.pow_succ]; simp; omega
  have hpi : (2 : Int) ^ n = ((2 ^ n : Nat) : Int) := by simp
  rw [Bool.eq_iff_iff, BitVec.slt_iff_toInt_lt, ext_toInt h1 h2 ha, ext_toInt h1 h2 hb, decide_eq_true_eq, BitVec.lt_def, BitVec.toNat_xor, BitVec.toNat_xor, ht, xor_top h1 ha, xor_top h1 hb, hpi]
  split <;> split <;> omega
theorem tru_bd (a : Vx) : -1 ≤ tru a ∧ tru a ≤ 1 := by unfold tru; (repeat' split) <;> omega
theorem tru_tr (t : Bool) : tru (tr t) = if t then 1 else 0 := by cases t <;> decide
theorem sub_lt {n : Nat} {v : BitVec 64} (h : Sub n v) : v.toNat < 2 ^ n :=
  Nat.lt_pow_two_of_testBit _ fun i hi => by rw [BitVec.testBit_toNat]; exact h i hi
theorem three_way {n : Nat} {a b : Vx} (hx : a.x = 0#64) (hy : b.x = 0#64) : tru (vlt n false a b) + tru (veq a b) + tru (vlt n false b a) = 1 := by
  have e1 : vlt n false a b = tr (decide (a.v < b.v)) := by unfold vlt; rw [if_pos ⟨hx, hy⟩]; rfl
  have e2 : vlt n false b a = tr (decide (b.v < a.v)) := by unfold vlt; rw [if_pos ⟨hy, hx⟩]; rfl
  have e3 : veq a b = tr (decide (a.v = b.v)) := by
    have hd : diff1 a b &&& ~~~(a.x ||| b.x) = a.v ^^^ b.v := by
      have hz : ~~~(0#64 ||| 0#64 : BitVec 64) = BitVec.allOnes 64 := by decide
      unfold diff1; rw [hx, hy, hz, BitVec.and_allOnes]; simp
    have hz : a.x ||| b.x = 0#64 := by rw [hx, hy]; decide
    unfold veq
    rw [hd, hz]
    by_cases h : a.v = b.v
    · rw [h]; simp
    · have : ¬ a.v ^^^ b.v = 0#64 := fun e => h (by
        have := congrArg (· ^^^ b.v) e
        simpa [BitVec.xor_assoc] using this)
      rw [if_neg this]; simp [h]
  rw [e1, e2, e3, tru_tr, tru_tr, tru_tr]
  simp only [BitVec.lt_def, decide_eq_true_eq]
  by_cases h : a.v = b.v
  · rw [h]; simp
  · have hn : a.v.toNat ≠ b.v.toNat := fun e => h (BitVec.eq_of_toNat_eq e)
    simp only [h, if_false]
    split <;> split <;> omega
/-- the vector of the highest bit, as the law makes it -/
def topv (n : Nat) : Vx := vshl n (kv n 1#64) (kv 7 (BitVec.ofNat 64 (n - 1))).v.toNat
theorem topv_is : ∀ n, n < 65 → 1 ≤ n → (topv n).v.toNat = 2 ^ (n - 1) ∧ (topv n).x = 0#64 := by decide +kernel
theorem vxor_known {n : Nat} {a b : Vx} (ha : a.ok n) (hb : b.ok n) (hx : a.x = 0#64) (hy : b.x = 0#64) : vxor n a b = ⟨a.v ^^^ b.v, 0#64⟩ := by
  refine Vx.same (vxor_ok ha hb) (ok_mk ha.lo ha.hi (sub_xor ha.subv hb.subv) (sub_zero n)) fun i hi => ?_
  rw [(vxor_bit ha.hi a b hi).1, (vxor_bit ha.hi a b hi).2, hx, hy]
  simp [BitVec.getLsbD_xor]
theorem vshl_ok {n : Nat} (h1 : 1 ≤ n) (h2 : n ≤ 64) (a : Vx) (k : Nat) : (vshl n a k).ok n := ok_mk h1 h2 (sub_and' (sub_msk h2)) (sub_and' (sub_msk h2))
theorem signed_way {n : Nat} {a b : Vx} (ha : a.ok n) (hb : b.ok n) (hx : a.x = 0#64) (hy : b.x = 0#64) : vlt n true a b = vlt n false (vxor n a (topv n)) (vxor n b (topv n)) := by
  have h1 := ha.lo
  have h2 := ha.hi
  obtain ⟨t1, t2⟩ := topv_is n (by omega) h1
  have ht : (topv n).ok n := vshl_ok h1 h2 _ _
  rw [vxor_known ha ht hx t2, vxor_known hb ht hy t2]
  unfold vlt
  rw [if_pos ⟨hx, hy⟩, if_pos ⟨rfl, rfl⟩]
  show tr ((ext n a.v).slt (ext n b.v)) = tr (decide ((a.v ^^^ (topv n).v) < (b.v ^^^ (topv n).v)))
  rw [slt_xor h1 h2 (sub_lt ha.subv) (sub_lt hb.subv) t1]
end Go.Proofs.YtgmgmkhcadimjaaDoor
namespace Go.Proofs.YtgmgmkhcadimjaaDoor
open Go Go.RowKit
set_option linter.unusedVariables false
theorem vshl_vshl {n : Nat} (h1 : 1 ≤ n) (h : n ≤ 64) (a : Vx) (j k : Nat) : vshl n (vshl n a j) k = vshl n a (j + k) := by
  refine Vx.same (vshl_ok h1 h _ _) (vshl_ok h1 h _ _) ?_
  intro i hi
  by_cases c : i < k
  · simp [vshl, msk_bit h, hi, c, show i < j + k by omega]
  · by_cases c2 : i - k < j
    · simp [vshl, msk_bit h, hi, c, show i < j + k by omega, c2]
    · simp only [vshl, BitVec.getLsbD_and, BitVec.getLsbD_shiftLeft, msk_bit h, hi, c, show ¬ i < j + k by omega, c2, show i < 64 by omega, show i - k < 64 by omega, show i - k < n by omega, show i - k - j = i - (j + k) by omega, decide_true, decide_false, Bool.not_false, Bool.true_and, Bool.and_true, and_self]
theorem law_shl {n : Nat} (h1 : 1 ≤ n) (h : n ≤ 64) (a : Vx) (k : Nat) : vshl n (vshl n a 1) k = vshl n (vshl n a k) 1 := by
  rw [vshl_vshl h1 h, vshl_vshl h1 h, Nat.add_comm]
theorem law_twice {n : Nat} {a : Vx} (h : n ≤ 64) (hx : a.x = 0#64) : vshl n a 1 = vop n (· + ·) a a := by
  rw [vop_kv _ hx hx]
  have e : a.v <<< 1 = a.v + a.v := by
    apply BitVec.eq_of_toNat_eq; rw [BitVec.toNat_shiftLeft, Nat.shiftLeft_eq, BitVec.toNat_add]; omega
  unfold vshl kv
  rw [hx, e]; simp
theorem tru_known {n : Nat} {a : Vx} (hx : a.x = 0#64) : (tru a = 0) = (a.v = 0#64) := by
  unfold tru; rw [hx, BitVec.or_zero]
  by_cases h : a.v = 0#64
  · rw [if_pos h]; simp [h]
  · rw [if_neg h]
    have e : a.v &&& ~~~0#64 = a.v := by apply BitVec.eq_of_getLsbD_eq; intro i hi; rw [BitVec.getLsbD_and, BitVec.getLsbD_not, BitVec.getLsbD_zero]; simp [hi]
    rw [e, if_neg h]; simp [h]
end Go.Proofs.YtgmgmkhcadimjaaDoor
