/- Numbers modulo 2^n: the laws that sums, products, quotients and shifts of vectors obey. No program here. -/
import Derived.Test.YtmaokbdjahgkiaaGreatDoorBit
namespace Go.Proofs.YtmaokbdjahgkiaaGreatDoor
open Go Go.RowKit
set_option linter.unusedVariables false
theorem pow_dvd64 {n : Nat} (h : n ≤ 64) : 2 ^ n ∣ 2 ^ 64 := Nat.pow_dvd_pow 2 h
theorem and_msk_toNat {n : Nat} (h : n ≤ 64) (v : BitVec 64) : (v &&& msk n).toNat = v.toNat % 2 ^ n := by
  rw [BitVec.toNat_and, msk_toNat n h, Nat.and_two_pow_sub_one_eq_mod]
theorem kv_eq {n : Nat} (h : n ≤ 64) {u v : BitVec 64} (e : u.toNat % 2 ^ n = v.toNat % 2 ^ n) : kv n u = kv n v := by
  unfold kv; congr 1; apply BitVec.eq_of_toNat_eq; rw [and_msk_toNat h, and_msk_toNat h, e]
theorem kv_mod {n : Nat} (h : n ≤ 64) {u v : BitVec 64} (e : kv n u = kv n v) : u.toNat % 2 ^ n = v.toNat % 2 ^ n := by
  have := congrArg (fun a : Vx => a.v.toNat) e
  simpa only [kv, and_msk_toNat h] using this
theorem kv_kv {n : Nat} (h : n ≤ 64) (v : BitVec 64) : kv n (kv n v).v = kv n v := kv_eq h (by simp only [kv, and_msk_toNat h, Nat.mod_mod])
theorem kv_self {n : Nat} {a : Vx} (ha : a.ok n) (hx : a.x = 0#64) : kv n a.v = a := by
  refine Vx.same (kv_ok ha.lo ha.hi _) ha ?_
  intro i hi
  simp [kv, msk_bit ha.hi, hi, hx]
theorem add_mod {n : Nat} (h : n ≤ 64) (u v : BitVec 64) : (u + v).toNat % 2 ^ n = (u.toNat % 2 ^ n + v.toNat % 2 ^ n) % 2 ^ n := by
  rw [BitVec.toNat_add, Nat.mod_mod_of_dvd _ (pow_dvd64 h), Nat.add_mod]
theorem mul_mod {n : Nat} (h : n ≤ 64) (u v : BitVec 64) : (u * v).toNat % 2 ^ n = (u.toNat % 2 ^ n * (v.toNat % 2 ^ n)) % 2 ^ n := by
  rw [BitVec.toNat_mul, Nat.mod_mod_of_dvd _ (pow_dvd64 h), Nat.mul_mod]
theorem kv_add {n : Nat} (h : n ≤ 64) {u u' v v' : BitVec 64} (hu : kv n u = kv n u') (hv : kv n v = kv n v') : kv n (u + v) = kv n (u' + v') :=
  kv_eq h (by rw [add_mod h, add_mod h, kv_mod h hu, kv_mod h hv])
theorem kv_mul {n : Nat} (h : n ≤ 64) {u u' v v' : BitVec 64} (hu : kv n u = kv n u') (hv : kv n v = kv n v') : kv n (u * v) = kv n (u' * v') :=
  kv_eq h (by rw [mul_mod h, mul_mod h, kv_mod h hu, kv_mod h hv])
theorem kv_ext {n : Nat} (h1 : 1 ≤ n) (h : n ≤ 64) (v : BitVec 64) : kv n (ext n v) = kv n v := by
  refine Vx.same (kv_ok h1 h _) (kv_ok h1 h _) ?_
  intro i hi
  simp only [kv, BitVec.getLsbD_and, msk_bit h, hi, decide_true, Bool.and_true, and_true]
  unfold ext
  rw [BitVec.getLsbD_sshiftRight]
  have h3 : 64 - n + i < 64 := by omega
  simp only [show ¬ 64 ≤ i by omega, decide_false, Bool.not_false, Bool.true_and, h3, ↓reduceIte, BitVec.getLsbD_shiftLeft, decide_true, show ¬ 64 - n + i < 64 - n by omega]
  congr 1; omega
/-- the result of an operation on numbers; without both numbers all bits are x -/
def vop (n : Nat) (f : BitVec 64 → BitVec 64 → BitVec 64) (a b : Vx) : Vx := if a.x = 0#64 ∧ b.x = 0#64 then kv n (f a.v b.v) else fl n 3
theorem vop_ok {n : Nat} (h1 : 1 ≤ n) (h2 : n ≤ 64) (f : BitVec 64 → BitVec 64 → BitVec 64) (a b : Vx) : (vop n f a b).ok n := by
  unfold vop; split
  · exact kv_ok h1 h2 _
  · exact fl_ok h1 h2 3
theorem vop_kv {n : Nat} (f : BitVec 64 → BitVec 64 → BitVec 64) {a b : Vx} (hx : a.x = 0#64) (hy : b.x = 0#64) : vop n f a b = kv n (f a.v b.v) := if_pos ⟨hx, hy⟩
/-- a quotient and a remainder, without and with signs -/
def qt (n : Nat) (s : Bool) (x y : BitVec 64) : BitVec 64 := if s then BitVec.ofInt 64 ((ext n x).toInt.tdiv (ext n y).toInt) else x / y
def rm (n : Nat) (s : Bool) (x y : BitVec 64) : BitVec 64 := if s then BitVec.ofInt 64 ((ext n x).toInt.tmod (ext n y).toInt) else x % y
def vdvd (n : Nat) (f : BitVec 64 → BitVec 64 → BitVec 64) (a b : Vx) : Vx := if b.v = 0#64 then fl n 3 else vop n f a b
theorem vdvd_ok {n : Nat} (h1 : 1 ≤ n) (h2 : n ≤ 64) (f : BitVec 64 → BitVec 64 → BitVec 64) (a b : Vx) : (vdvd n f a b).ok n := by
  unfold vdvd; split
  · exact fl_ok h1 h2 3
  · exact vop_ok h1 h2 f a b
theorem law_sub {n : Nat} {a b : Vx} (ha : a.ok n) (hb : b.ok n) (hx : a.x = 0#64) (hy : b.x = 0#64) : vop n (· + ·) (vop n (· - ·) a b) b = a := by
  rw [vop_kv (· - ·) hx hy, vop_kv _ rfl hy]
  rw [kv_add ha.hi (kv_kv ha.hi _) rfl, BitVec.sub_add_cancel, kv_self ha hx]
theorem law_mul {n : Nat} {a b c : Vx} (h : n ≤ 64) (hx : a.x = 0#64) (hy : b.x = 0#64) (hz : c.x = 0#64) :
    vop n (· * ·) a (vop n (· + ·) b c) = vop n (· + ·) (vop n (· * ·) a b) (vop n (· * ·) a c) := by
  rw [vop_kv (· + ·) hy hz, vop_kv (· * ·) hx hy, vop_kv (· * ·) hx hz, vop_kv _ hx rfl, vop_kv _ rfl rfl]
  rw [kv_mul h rfl (kv_kv h _), kv_add h (kv_kv h _) (kv_kv h _), BitVec.mul_add]
theorem div_back {n : Nat} {a b : Vx} (s : Bool) (ha : a.ok n) (hb : b.ok n) : kv n (qt n s a.v b.v * b.v + rm n s a.v b.v) = kv n a.v := by
  have h1 := ha.lo
  have h := ha.hi
  cases s
  · have e : a.v / b.v * b.v + a.v % b.v = a.v := by
      apply BitVec.eq_of_toNat_eq
      have d := Nat.div_add_mod a.v.toNat b.v.toNat
      rw [Nat.mul_comm] at d
      have := a.v.isLt
      rw [BitVec.toNat_add, BitVec.toNat_mul, BitVec.toNat_udiv, BitVec.toNat_umod, Nat.mod_eq_of_lt (a := _ * _) (by omega), d, Nat.mod_eq_of_lt (by omega)]
    exact congrArg (kv n) e
  · have e : qt n true a.v b.v * ext n b.v + rm n true a.v b.v = ext n a.v := by
      simp only [qt, rm, ↓reduceIte]
      generalize ext n a.v = x
      generalize ext n b.v = y
      have d := Int.tdiv_mul_add_tmod x.toInt y.toInt
      conv => rhs; rw [← BitVec.ofInt_toInt (x := x), ← d]
      rw [BitVec.ofInt_add, BitVec.ofInt_mul, BitVec.ofInt_toInt]
    rw [kv_add h (kv_mul h rfl (kv_ext h1 h b.v).symm) rfl, e, kv_ext h1 h]
theorem law_div {n : Nat} {a b : Vx} (s : Bool) (ha : a.ok n) (hb : b.ok n) (hx : a.x = 0#64) (hy : b.x = 0#64) (h0 : b.v ≠ 0#64) :
    vop n (· + ·) (vop n (· * ·) (vdvd n (qt n s) a b) b) (vdvd n (rm n s) a b) = a := by
  unfold vdvd; rw [if_neg h0, if_neg h0, vop_kv (qt n s) hx hy, vop_kv (rm n s) hx hy, vop_kv (· * ·) rfl hy, vop_kv _ rfl rfl]
  rw [kv_add ha.hi (Eq.trans (kv_kv ha.hi _) (kv_mul ha.hi (kv_kv ha.hi _) rfl)) (kv_kv ha.hi _), div_back s ha hb, kv_self ha hx]
theorem law_zero {n : Nat} (f g : BitVec 64 → BitVec 64 → BitVec 64) {a b : Vx} (h0 : b.v = 0#64) : vdvd n f a b = fl n 3 := if_pos h0
end Go.Proofs.YtmaokbdjahgkiaaGreatDoor
