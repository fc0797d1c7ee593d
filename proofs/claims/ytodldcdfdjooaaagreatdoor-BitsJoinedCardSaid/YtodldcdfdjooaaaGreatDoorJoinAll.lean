/- The parity of the number of ones, in numbers.
   The reductions are those of single bits; inverting exchanges And and Or. No program here.
   What BitsDual calls besides: OnesCount64, RedXor, Slice.
   Not, And, Or, Xor, the reductions, LNot, LAnd and LOr of any vectors.
   The reference's each and fold with AndOf, OrOf and XorOf. No condition but lengths.
   Conjunctions, disjunctions and reductions of lists of states are those of vectors. No condition.
   masklaw1.binary and the reference's Binary and Unary at And, Or, Xor, LAnd, LOr, Not, the reductions and LNot.
   The law BitsJoined: its walk. -/
import Derived.WalkKit
import Derived.Test.YtodldcdfdjooaaaGreatDoorOps2
import Derived.Test.YtodldcdfdjooaaaGreatDoorCmpProg
import Derived.Test.YtodldcdfdjooaaaGreatDoorRelC
import Derived.Lib.QuietBelow
import Derived.Test.YtodldcdfdjooaaaGreatDoorRefCmp
import Derived.Test.YtodldcdfdjooaaaGreatDoorRefParts
import Derived.Test.YtodldcdfdjooaaaGreatDoorCmpMath
import Derived.Test.YtodldcdfdjooaaaGreatDoorPair
import Derived.Test.YtodldcdfdjooaaaGreatDoorVectors
import Derived.Deep.CutBlock
import Derived.Deep.DeepCutAuto
import Derived.LoopTactic
namespace Go.Proofs.YtodldcdfdjooaaaGreatDoor
/-- a bit of parity -/
def par (a : BitVec 64) : Nat → Bool
  | 0 => false
  | i + 1 => par a i ^^ a.getLsbD i
theorem land_dig (y z m k : Nat) (hy : y < 256) (hm : m < 256) : (y + 256 * z) &&& (m + 256 * k) = (y &&& m) + 256 * (z &&& k) := by
  have e1 : ((y + 256 * z) &&& (m + 256 * k)) % 2 ^ 8 = y &&& m := by
    rw [Nat.and_mod_two_pow]; congr 1 <;> omega
  have e2 : ((y + 256 * z) &&& (m + 256 * k)) / 2 ^ 8 = z &&& k := by
    rw [Nat.and_div_two_pow]; congr 1 <;> omega
  omega
/-- one step over all bytes: `d` is the divisor -/
def s1 (y : Nat) : Nat := (y / 2 &&& 85) + (y &&& 85)
def s2 (y : Nat) : Nat := (y / 4 &&& 51) + (y &&& 51)
def s3 (y : Nat) : Nat := (y / 16 + y) &&& 15
def G (m d x : Nat) : Nat := (x / d &&& m) + (x &&& m)
theorem c1 : ∀ y, y < 256 → ∀ e, e < 2 → ((y / 2 + 128 * e) &&& 85) = (y / 2 &&& 85) := by decide +kernel
theorem c2 : ∀ y, y < 256 → ∀ e, e < 4 → ((y / 4 + 64 * e) &&& 51) = (y / 4 &&& 51) := by decide +kernel
theorem c3 : ∀ y, y < 256 → s1 y < 256 ∧ s2 (s1 y) < 256 ∧ s2 (s1 y) / 16 ≤ 4 ∧ s2 (s1 y) % 16 ≤ 4 ∧ s3 (s2 (s1 y)) ≤ 8 := by decide +kernel
theorem c4 : ∀ y, y < 256 → ∀ e, e ≤ 4 → ((s2 (s1 y) / 16 + s2 (s1 y) + 16 * e) &&& 15) = s3 (s2 (s1 y)) := by decide +kernel
theorem step1 (y z k : Nat) (hy : y < 256) : G (85 + 256 * k) 2 (y + 256 * z) = s1 y + 256 * G k 2 z := by
  have e : (y + 256 * z) / 2 = (y / 2 + 128 * (z % 2)) + 256 * (z / 2) := by omega
  unfold G s1
  rw [e, land_dig _ _ _ _ (by omega) (by omega), land_dig _ _ _ _ hy (by omega), c1 y hy _ (by omega)]
  omega
theorem step2 (y z k : Nat) (hy : y < 256) : G (51 + 256 * k) 4 (y + 256 * z) = s2 y + 256 * G k 4 z := by
  have e : (y + 256 * z) / 4 = (y / 4 + 64 * (z % 4)) + 256 * (z / 4) := by omega
  unfold G s2
  rw [e, land_dig _ _ _ _ (by omega) (by omega), land_dig _ _ _ _ hy (by omega), c2 y hy _ (by omega)]
  omega
def H (m x : Nat) : Nat := (x / 16 + x) &&& m
theorem step3 (y z k : Nat) (hy : y < 256) (hz : z % 16 ≤ 4) : H (15 + 256 * k) (s2 (s1 y) + 256 * z) = s3 (s2 (s1 y)) + 256 * H k z := by
  have ⟨_, b, c, d, _⟩ := c3 y hy
  have e : (s2 (s1 y) + 256 * z) / 16 + (s2 (s1 y) + 256 * z) = (s2 (s1 y) / 16 + s2 (s1 y) + 16 * (z % 16)) + 256 * (z / 16 + z) := by omega
  unfold H
  rw [e, land_dig _ _ _ _ (by omega) (by omega), c4 y hy _ hz]
/-- the mask of `n` bytes `b` -/
def mk (b : Nat) : Nat → Nat
  | 0 => 0
  | n + 1 => b + 256 * mk b n
/-- the number whose bytes are `f` of the bytes of `x` -/
def by_ (f : Nat → Nat) : Nat → Nat → Nat
  | 0, _ => 0
  | n + 1, x => f (x % 256) + 256 * by_ f n (x / 256)
theorem g1 : ∀ (n x : Nat), x < 256 ^ n → G (mk 85 n) 2 x = by_ s1 n x
  | 0, x, h => by have : x = 0 := by simpa using h
                  subst this; rfl
  | n + 1, x, h => by
    have h' : x / 256 < 256 ^ n := by rw [Nat.pow_succ] at h; omega
    have := step1 (x % 256) (x / 256) (mk 85 n) (by omega)
    rw [show x % 256 + 256 * (x / 256) = x by omega] at this
    show G (85 + 256 * mk 85 n) 2 x = s1 (x % 256) + 256 * by_ s1 n (x / 256)
    rw [this, g1 n _ h']
theorem by_mod (f g : Nat → Nat) (hf : ∀ y, y < 256 → f y < 256) : ∀ (n x : Nat), by_ g n (by_ f n x) = by_ (fun y => g (f y)) n x
  | 0, _ => rfl
  | n + 1, x => by
    have := hf (x % 256) (by omega)
    show g ((f (x % 256) + 256 * by_ f n (x / 256)) % 256) + 256 * by_ g n ((f (x % 256) + 256 * by_ f n (x / 256)) / 256) = g (f (x % 256)) + 256 * by_ (fun y => g (f y)) n (x / 256)
    rw [show (f (x % 256) + 256 * by_ f n (x / 256)) % 256 = f (x % 256) by omega, show (f (x % 256) + 256 * by_ f n (x / 256)) / 256 = by_ f n (x / 256) by omega, by_mod f g hf n]
theorem by_lt (f : Nat → Nat) (hf : ∀ y, y < 256 → f y < 256) : ∀ (n x : Nat), by_ f n x < 256 ^ n
  | 0, _ => by simp [by_]
  | n + 1, x => by
    have := hf (x % 256) (by omega)
    have h := by_lt f hf n (x / 256)
    show f (x % 256) + 256 * by_ f n (x / 256) < 256 ^ (n + 1)
    rw [Nat.pow_succ]; omega
theorem g2 : ∀ (n x : Nat), x < 256 ^ n → G (mk 51 n) 4 x = by_ s2 n x
  | 0, x, h => by have : x = 0 := by simpa using h
                  subst this; rfl
  | n + 1, x, h => by
    have h' : x / 256 < 256 ^ n := by rw [Nat.pow_succ] at h; omega
    have := step2 (x % 256) (x / 256) (mk 51 n) (by omega)
    rw [show x % 256 + 256 * (x / 256) = x by omega] at this
    show G (51 + 256 * mk 51 n) 4 x = s2 (x % 256) + 256 * by_ s2 n (x / 256)
    rw [this, g2 n _ h']
def s12 (y : Nat) : Nat := s2 (s1 y)
def s123 (y : Nat) : Nat := s3 (s2 (s1 y))
theorem by_low : ∀ (n x : Nat), by_ s12 n x % 16 ≤ 4
  | 0, _ => by simp [by_]
  | n + 1, x => by
    have ⟨_, b, c, d, _⟩ := c3 (x % 256) (by omega)
    show (s12 (x % 256) + 256 * by_ s12 n (x / 256)) % 16 ≤ 4
    unfold s12 at *; omega
theorem g3 : ∀ (n x : Nat), H (mk 15 n) (by_ s12 n x) = by_ s123 n x
  | 0, x => by simp [H, mk, by_]
  | n + 1, x => by
    have := step3 (x % 256) (by_ s12 n (x / 256)) (mk 15 n) (by omega) (by_low n _)
    show H (15 + 256 * mk 15 n) (s2 (s1 (x % 256)) + 256 * by_ s12 n (x / 256)) = s3 (s2 (s1 (x % 256))) + 256 * by_ s123 n (x / 256)
    rw [this, g3 n]
theorem g123 (x : Nat) (h : x < 256 ^ 8) : H (mk 15 8) (G (mk 51 8) 4 (G (mk 85 8) 2 x)) = by_ s123 8 x := by
  rw [g1 8 x h, g2 8 _ (by_lt s1 (fun y hy => (c3 y hy).1) 8 x), by_mod s1 s2 (fun y hy => (c3 y hy).1) 8 x]
  exact g3 8 x
/-- the last three steps -/
theorem fold8 (a0 a1 a2 a3 a4 a5 a6 a7 x y z u : Nat) (h0 : a0 ≤ 8) (h1 : a1 ≤ 8) (h2 : a2 ≤ 8) (h3 : a3 ≤ 8) (h4 : a4 ≤ 8) (h5 : a5 ≤ 8) (h6 : a6 ≤ 8) (h7 : a7 ≤ 8)
    (hx : x = a0 + 256 * (a1 + 256 * (a2 + 256 * (a3 + 256 * (a4 + 256 * (a5 + 256 * (a6 + 256 * a7)))))))
    (hy : y = (x + x / 256) % 2 ^ 64) (hz : z = (y + y / 2 ^ 16) % 2 ^ 64) (hu : u = (z + z / 2 ^ 32) % 2 ^ 64) : u % 128 = a0 + a1 + a2 + a3 + a4 + a5 + a6 + a7 := by
  have dx : x / 256 = a1 + 256 * (a2 + 256 * (a3 + 256 * (a4 + 256 * (a5 + 256 * (a6 + 256 * a7))))) := by omega
  have ey : y = (a0 + a1) + 256 * ((a1 + a2) + 256 * ((a2 + a3) + 256 * ((a3 + a4) + 256 * ((a4 + a5) + 256 * ((a5 + a6) + 256 * ((a6 + a7) + 256 * a7)))))) := by
    rw [hy, dx, hx, Nat.mod_eq_of_lt (by omega)]; omega
  clear hy dx hx
  have dy : y / 2 ^ 16 = (a2 + a3) + 256 * ((a3 + a4) + 256 * ((a4 + a5) + 256 * ((a5 + a6) + 256 * ((a6 + a7) + 256 * a7)))) := by omega
  have ez : z = (a0 + a1 + a2 + a3) + 256 * ((a1 + a2 + a3 + a4) + 256 * ((a2 + a3 + a4 + a5) + 256 * ((a3 + a4 + a5 + a6) + 256 * ((a4 + a5 + a6 + a7) + 256 * ((a5 + a6 + a7) + 256 * ((a6 + a7) + 256 * a7)))))) := by
    rw [hz, dy, ey, Nat.mod_eq_of_lt (by omega)]; omega
  clear hz dy ey
  have dz : z / 2 ^ 32 = (a4 + a5 + a6 + a7) + 256 * ((a5 + a6 + a7) + 256 * ((a6 + a7) + 256 * a7)) := by omega
  rw [dz, ez] at hu
  clear dz ez
  rw [Nat.mod_eq_of_lt (by clear hu; omega)] at hu
  omega
/-- the parity of a byte -/
def pb (y : Nat) : Bool := y.testBit 0 ^^ y.testBit 1 ^^ y.testBit 2 ^^ y.testBit 3 ^^ y.testBit 4 ^^ y.testBit 5 ^^ y.testBit 6 ^^ y.testBit 7
theorem pb_is : ∀ y, y < 256 → pb y = decide (s123 y % 2 = 1) := by decide +kernel
theorem s123_le (y : Nat) (h : y < 256) : s123 y ≤ 8 := (c3 y h).2.2.2.2
theorem odd_add (a b : Nat) : decide ((a + b) % 2 = 1) = (decide (a % 2 = 1) ^^ decide (b % 2 = 1)) := by
  have h1 : a % 2 = 0 ∨ a % 2 = 1 := by omega
  have h2 : b % 2 = 0 ∨ b % 2 = 1 := by omega
  rcases h1 with h1 | h1 <;> rcases h2 with h2 | h2 <;> simp [h1, h2, Nat.add_mod]
theorem par8 (a : BitVec 64) (j : Nat) : par a (8 * j + 8) = (par a (8 * j) ^^ pb (a.toNat / 256 ^ j % 256)) := by
  have e : ∀ i, i < 8 → (a.toNat / 256 ^ j % 256).testBit i = a.getLsbD (8 * j + i) := by
    intro i hi
    rw [show (256 : Nat) ^ j = 2 ^ (8 * j) by rw [Nat.pow_mul], show (256 : Nat) = 2 ^ 8 from rfl, Nat.testBit_mod_two_pow, Nat.testBit_div_two_pow, BitVec.getLsbD]
    simp [hi]
    rw [Nat.add_comm]
  show (((((((((par a (8 * j) ^^ a.getLsbD (8 * j)) ^^ a.getLsbD (8 * j + 1)) ^^ a.getLsbD (8 * j + 2)) ^^ a.getLsbD (8 * j + 3)) ^^ a.getLsbD (8 * j + 4)) ^^ a.getLsbD (8 * j + 5)) ^^ a.getLsbD (8 * j + 6)) ^^ a.getLsbD (8 * j + 7))) = _
  unfold pb
  rw [e 0 (by decide), e 1 (by decide), e 2 (by decide), e 3 (by decide), e 4 (by decide), e 5 (by decide), e 6 (by decide), e 7 (by decide)]
  simp only [Bool.xor_assoc, Nat.add_zero]
theorem par_sum (a : BitVec 64) : ∀ k, par a (8 * k) = decide ((List.range k).foldl (fun s j => s + s123 (a.toNat / 256 ^ j % 256)) 0 % 2 = 1)
  | 0 => rfl
  | k + 1 => by
    rw [List.range_succ, List.foldl_append]
    show par a (8 * k + 8) = decide (((List.range k).foldl _ 0 + s123 (a.toNat / 256 ^ k % 256)) % 2 = 1)
    rw [par8, par_sum a k, odd_add, pb_is _ (by omega)]
/-- the low bit of the number of ones is the parity -/
theorem pop_par (a : BitVec 64) (x y z u : Nat) (hx : x = H (mk 15 8) (G (mk 51 8) 4 (G (mk 85 8) 2 a.toNat)))
    (hy : y = (x + x / 256) % 2 ^ 64) (hz : z = (y + y / 2 ^ 16) % 2 ^ 64) (hu : u = (z + z / 2 ^ 32) % 2 ^ 64) : decide (u % 128 % 2 = 1) = par a 64 := by
  have hl : ∀ j, s123 (a.toNat / 256 ^ j % 256) ≤ 8 := fun j => s123_le _ (by omega)
  have h := fold8 _ _ _ _ _ _ _ _ x y z u (hl 0) (hl 1) (hl 2) (hl 3) (hl 4) (hl 5) (hl 6) (hl 7) (by
    rw [hx, g123 _ a.isLt]
    simp only [by_, Nat.div_div_eq_div_mul, Nat.pow_zero, Nat.div_one, Nat.mul_zero, Nat.add_zero]) hy hz hu
  rw [h]
  refine Eq.trans ?_ (par_sum a 8).symm
  simp only [List.range_succ, List.range_zero, List.nil_append, List.cons_append, List.foldl_cons, List.foldl_nil, Nat.zero_add]
end Go.Proofs.YtodldcdfdjooaaaGreatDoor
namespace Go.Proofs.YtodldcdfdjooaaaGreatDoor
open Go Go.RowKit
set_option linter.unusedVariables false
/-- bit i of a vector, as a vector -/
def bitv (a : Vx) (i : Nat) : Vx := ⟨a.v >>> i &&& msk 1, a.x >>> i &&& msk 1⟩
def bv1 (v x : Bool) : Vx := ⟨if v then 1#64 else 0#64, if x then 1#64 else 0#64⟩
theorem red_bit1 (a : BitVec 64) (i : Nat) : a >>> i &&& msk 1 = if a.getLsbD i then 1#64 else 0#64 := by
  rw [show msk 1 = 1#64 by decide]
  apply BitVec.eq_of_getLsbD_eq
  intro j hj
  rw [BitVec.getLsbD_and, BitVec.getLsbD_ushiftRight]
  by_cases h0 : j = 0
  · subst h0; cases a.getLsbD i <;> simp
  · have : (1#64).getLsbD j = false := by
      rw [BitVec.getLsbD_one]; simp [h0]
    rw [this, Bool.and_false]
    cases a.getLsbD i <;> simp [this]
theorem bitv_is (a : Vx) (i : Nat) : bitv a i = bv1 (a.v.getLsbD i) (a.x.getLsbD i) := by
  unfold bitv bv1; rw [red_bit1, red_bit1]
theorem bitv_ok (a : Vx) (i : Nat) : (bitv a i).ok 1 := ok_mk (by decide) (by decide) (sub_and' (sub_msk (by decide))) (sub_and' (sub_msk (by decide)))
def fa (a : Vx) : Nat → Vx
  | 0 => fl 1 1
  | i + 1 => vand 1 (fa a i) (bitv a i)
def fo (a : Vx) : Nat → Vx
  | 0 => fl 1 0
  | i + 1 => vor 1 (fo a i) (bitv a i)
def fx (a : Vx) : Nat → Vx
  | 0 => fl 1 0
  | i + 1 => vxor 1 (fx a i) (bitv a i)
theorem fa_ok (a : Vx) : ∀ i, (fa a i).ok 1
  | 0 => fl_ok (by decide) (by decide) 1
  | i + 1 => vand_ok (fa_ok a i)
theorem fo_ok (a : Vx) : ∀ i, (fo a i).ok 1
  | 0 => fl_ok (by decide) (by decide) 0
  | i + 1 => vor_ok (fo_ok a i) (bitv_ok a i)
theorem fx_ok (a : Vx) : ∀ i, (fx a i).ok 1
  | 0 => fl_ok (by decide) (by decide) 0
  | i + 1 => vxor_ok (fx_ok a i) (bitv_ok a i)
def st3 (o z : Bool) : Vx := if o then tr true else if z then fl 1 3 else tr false
def stx (q p : Bool) : Vx := if q then fl 1 3 else tr p
def anyB (f : Nat → Bool) : Nat → Bool
  | 0 => false
  | i + 1 => anyB f i || f i
theorem anyB_iff (f : Nat → Bool) : ∀ n, anyB f n = true ↔ ∃ i, i < n ∧ f i = true
  | 0 => by simp [anyB]
  | n + 1 => by
    unfold anyB
    rw [Bool.or_eq_true, anyB_iff f n]
    constructor
    · rintro (⟨i, h, k⟩ | h)
      · exact ⟨i, by omega, k⟩
      · exact ⟨n, by omega, h⟩
    · rintro ⟨i, h, k⟩
      by_cases e : i = n
      · subst e; exact .inr k
      · exact .inl ⟨i, by omega, k⟩
theorem or_step (o z v x : Bool) : vor 1 (st3 o z) (bv1 v x) = st3 (o || (v && !x)) (z || (v || x)) := by
  cases o <;> cases z <;> cases v <;> cases x <;> kernel_rfl
theorem xor_step (q p v x : Bool) : vxor 1 (stx q p) (bv1 v x) = stx (q || x) (p ^^ v) := by
  cases q <;> cases p <;> cases v <;> cases x <;> kernel_rfl
theorem and_step (o z v x : Bool) : vand 1 (vnot 1 (st3 o z)) (bv1 v x) = vnot 1 (vor 1 (st3 o z) (bv1 (!v || x) x)) := by
  cases o <;> cases z <;> cases v <;> cases x <;> kernel_rfl
def red_oneB (a : Vx) (i : Nat) : Bool := a.v.getLsbD i && !a.x.getLsbD i
def nzB (a : Vx) (i : Nat) : Bool := a.v.getLsbD i || a.x.getLsbD i
theorem fo_is (a : Vx) : ∀ i, fo a i = st3 (anyB (red_oneB a) i) (anyB (nzB a) i)
  | 0 => show fl 1 0 = tr false by kernel_rfl
  | i + 1 => by
    show vor 1 (fo a i) (bitv a i) = _
    rw [fo_is a i, bitv_is, or_step]
    rfl
theorem fx_is (a : Vx) : ∀ i, fx a i = stx (anyB (fun i => a.x.getLsbD i) i) (par a.v i)
  | 0 => show fl 1 0 = tr false by kernel_rfl
  | i + 1 => by
    show vxor 1 (fx a i) (bitv a i) = _
    rw [fx_is a i, bitv_is, xor_step]
    rfl
theorem zero_any {n : Nat} {o : BitVec 64} (h : Sub n o) : (o = 0#64) ↔ ¬ ∃ i, i < n ∧ o.getLsbD i = true := by
  constructor
  · rintro rfl ⟨i, _, k⟩; simp at k
  · intro k
    apply BitVec.eq_of_getLsbD_eq
    intro i hi
    by_cases e : i < n
    · cases q : o.getLsbD i
      · simp
      · exact absurd ⟨i, e, q⟩ k
    · rw [h i (by omega)]; simp
theorem redor_is {n : Nat} {a : Vx} (ha : a.ok n) : redor a = fo a n := by
  have e1 : (a.v ||| a.x = 0#64) ↔ ¬ anyB (nzB a) n = true := by
    rw [zero_any (sub_or ha.subv ha.subx), anyB_iff]
    unfold nzB
    simp only [BitVec.getLsbD_or]
  have e2 : (a.v &&& ~~~a.x = 0#64) ↔ ¬ anyB (red_oneB a) n = true := by
    rw [zero_any (sub_and ha.subv), anyB_iff]
    have : ∀ i, i < n → (a.v &&& ~~~a.x).getLsbD i = red_oneB a i := fun i hi => one1_bit a (by have := ha.hi; omega)
    constructor
    · rintro k ⟨i, hi, h⟩; exact k ⟨i, hi, by rw [this i hi]; exact h⟩
    · rintro k ⟨i, hi, h⟩; exact k ⟨i, hi, by rw [← this i hi]; exact h⟩
  have e3 : anyB (red_oneB a) n = true → anyB (nzB a) n = true := by
    rw [anyB_iff, anyB_iff]
    rintro ⟨i, hi, h⟩
    exact ⟨i, hi, by unfold red_oneB at h; unfold nzB; simp at h; simp [h.1]⟩
  rw [fo_is]
  unfold redor tru st3
  by_cases h0 : a.v ||| a.x = 0#64
  · have z := e1.1 h0
    have o : ¬ anyB (red_oneB a) n = true := fun h => z (e3 h)
    rw [if_pos h0, if_pos rfl, if_neg o, if_neg z]
  · have z : anyB (nzB a) n = true := Classical.byContradiction fun h => h0 (e1.2 h)
    rw [if_neg h0]
    by_cases h1 : a.v &&& ~~~a.x = 0#64
    · rw [if_pos h1, if_neg (by decide), if_neg (by decide), if_neg (e2.1 h1), if_pos z]
    · have o : anyB (red_oneB a) n = true := Classical.byContradiction fun h => h1 (e2.2 h)
      rw [if_neg h1, if_neg (by decide), if_pos rfl, if_pos o]
theorem fa_is {n : Nat} {a : Vx} (hn : n ≤ 64) : ∀ i, i ≤ n → fa a i = vnot 1 (fo (vnot n a) i)
  | 0, _ => show fl 1 1 = vnot 1 (fl 1 0) by kernel_rfl
  | i + 1, h => by
    show vand 1 (fa a i) (bitv a i) = vnot 1 (vor 1 (fo (vnot n a) i) (bitv (vnot n a) i))
    rw [fa_is hn i (by omega), fo_is, bitv_is, bitv_is, and_step, (vnot_bit hn a (show i < n by omega)).1, (vnot_bit hn a (show i < n by omega)).2]
theorem redand_is {n : Nat} {a : Vx} (ha : a.ok n) : redand n a = fa a n := by
  rw [fa_is ha.hi n (Nat.le_refl n)]
  unfold redand
  rw [redor_is (vnot_ok ha)]
theorem par_hi {n : Nat} {o : BitVec 64} (h : Sub n o) : ∀ k, par o (n + k) = par o n
  | 0 => rfl
  | k + 1 => by
    show (par o (n + k) ^^ o.getLsbD (n + k)) = _
    rw [h (n + k) (by omega), par_hi h k, Bool.xor_false]
def vredxor (a : Vx) : Vx := if a.x = 0#64 then tr (par a.v 64) else fl 1 3
theorem redxor_is {n : Nat} {a : Vx} (ha : a.ok n) : vredxor a = fx a n := by
  have hn := ha.hi
  have p : par a.v 64 = par a.v n := by
    have := par_hi ha.subv (64 - n)
    rw [show n + (64 - n) = 64 by omega] at this
    exact this
  have e := zero_any ha.subx
  rw [← anyB_iff (fun i => a.x.getLsbD i)] at e
  rw [fx_is]
  unfold vredxor stx
  rw [p]
  by_cases h : a.x = 0#64
  · rw [if_pos h, if_neg (e.1 h)]
  · rw [if_neg h, if_pos (Classical.byContradiction fun k => h (e.2 k))]
theorem dual1 {n : Nat} {a b : Vx} (ha : a.ok n) (hb : b.ok n) : vnot n (vand n a b) = vor n (vnot n a) (vnot n b) := by
  have h := ha.hi
  refine Vx.same (vnot_ok (vand_ok ha)) (vor_ok (vnot_ok ha) (vnot_ok hb)) fun i hi => ?_
  simp only [(vnot_bit h _ hi).1, (vnot_bit h _ hi).2, (vand_bit h _ _ hi).1, (vand_bit h _ _ hi).2, (vor_bit h _ _ hi).1, (vor_bit h _ _ hi).2]
  cases a.v.getLsbD i <;> cases a.x.getLsbD i <;> cases b.v.getLsbD i <;> cases b.x.getLsbD i <;> decide
theorem dual2 {n : Nat} {a b : Vx} (ha : a.ok n) (hb : b.ok n) : vnot n (vxor n a b) = vxor n (vnot n a) b := by
  have h := ha.hi
  refine Vx.same (vnot_ok (vxor_ok ha hb)) (vxor_ok (vnot_ok ha) hb) fun i hi => ?_
  simp only [(vnot_bit h _ hi).1, (vnot_bit h _ hi).2, (vxor_bit h _ _ hi).1, (vxor_bit h _ _ hi).2]
  cases a.v.getLsbD i <;> cases a.x.getLsbD i <;> cases b.v.getLsbD i <;> cases b.x.getLsbD i <;> decide
end Go.Proofs.YtodldcdfdjooaaaGreatDoor
namespace Go.Proofs.YtodldcdfdjooaaaGreatDoor
open Go Go.RowKit
set_option linter.unusedVariables false
theorem U_m0 (a : BitVec 64) : bits .and .u64 (U a) 6148914691236517205 = U (a &&& 6148914691236517205#64) := (congrArg (bits .and .u64 (U a)) (show (6148914691236517205 : Int) = U 6148914691236517205#64 by unfold U; rw [BitVec.toNat_ofNat]; rfl)).trans (U_and a _)
theorem U_m1 (a : BitVec 64) : bits .and .u64 (U a) 3689348814741910323 = U (a &&& 3689348814741910323#64) := (congrArg (bits .and .u64 (U a)) (show (3689348814741910323 : Int) = U 3689348814741910323#64 by unfold U; rw [BitVec.toNat_ofNat]; rfl)).trans (U_and a _)
theorem U_m2 (a : BitVec 64) : bits .and .u64 (U a) 1085102592571150095 = U (a &&& 1085102592571150095#64) := (congrArg (bits .and .u64 (U a)) (show (1085102592571150095 : Int) = U 1085102592571150095#64 by unfold U; rw [BitVec.toNat_ofNat]; rfl)).trans (U_and a _)
theorem U_d1 (a : BitVec 64) : U a / (2 : Int) = U (a >>> 1) := U_shr a 1
theorem U_d2 (a : BitVec 64) : U a / (4 : Int) = U (a >>> 2) := U_shr a 2
theorem U_d4 (a : BitVec 64) : U a / (16 : Int) = U (a >>> 4) := U_shr a 4
theorem U_d8 (a : BitVec 64) : U a / (256 : Int) = U (a >>> 8) := U_shr a 8
theorem U_d16 (a : BitVec 64) : U a / (65536 : Int) = U (a >>> 16) := U_shr a 16
theorem U_d32 (a : BitVec 64) : U a / (4294967296 : Int) = U (a >>> 32) := U_shr a 32
attribute [local go_sem] U_m0 U_m1 U_m2 U_d1 U_d2 U_d4 U_d8 U_d16 U_d32
def w1 (a : BitVec 64) : BitVec 64 := (a >>> 1 &&& 6148914691236517205#64) + (a &&& 6148914691236517205#64)
def w2 (a : BitVec 64) : BitVec 64 := (a >>> 2 &&& 3689348814741910323#64) + (a &&& 3689348814741910323#64)
def w3 (a : BitVec 64) : BitVec 64 := (a >>> 4 + a) &&& 1085102592571150095#64
def w4 (a : BitVec 64) : BitVec 64 := a + a >>> 8
def w5 (a : BitVec 64) : BitVec 64 := a + a >>> 16
def w6 (a : BitVec 64) : BitVec 64 := a + a >>> 32
theorem S_and127 (a : BitVec 64) : bits .and .i64 (S a) 127 = ((a.toNat % 128 : Nat) : Int) := by
  have e : a &&& 127#64 = BitVec.ofNat 64 (a.toNat % 128) := by
    apply BitVec.eq_of_toNat_eq
    rw [BitVec.toNat_and, show BitVec.toNat 127#64 = 2 ^ 7 - 1 from rfl, Nat.and_two_pow_sub_one_eq_mod, BitVec.toNat_ofNat]
    omega
  show IntKind.i64.wrap ((BitVec.ofInt 64 (S a) &&& BitVec.ofInt 64 127).toNat : Int) = _
  rw [show BitVec.ofInt 64 (S a) = a from BitVec.ofInt_toInt, show BitVec.ofInt 64 127 = 127#64 from rfl, e, BitVec.toNat_ofNat, IntKind.wrap_i64]
  omega
theorem shr_nat' (a : BitVec 64) (k : Nat) : (a >>> k).toNat = a.toNat / 2 ^ k := by
  rw [BitVec.toNat_ushiftRight, Nat.shiftRight_eq_div_pow]
theorem w1_nat (a : BitVec 64) : (w1 a).toNat = G (mk 85 8) 2 a.toNat % 2 ^ 64 := by
  unfold w1 G
  rw [BitVec.toNat_add, BitVec.toNat_and, BitVec.toNat_and, shr_nat']
  rfl
theorem w2_nat (a : BitVec 64) : (w2 a).toNat = G (mk 51 8) 4 a.toNat % 2 ^ 64 := by
  unfold w2 G
  rw [BitVec.toNat_add, BitVec.toNat_and, BitVec.toNat_and, shr_nat']
  rfl
theorem w12_nat (a : BitVec 64) : (w2 (w1 a)).toNat = by_ s12 8 a.toNat := by
  have h1 := by_lt s1 (fun y hy => (c3 y hy).1) 8 a.toNat
  have h2 := by_lt s12 (fun y hy => (c3 y hy).2.1) 8 a.toNat
  have e1 : (w1 a).toNat = by_ s1 8 a.toNat := by
    rw [w1_nat, g1 8 _ a.isLt]; exact Nat.mod_eq_of_lt h1
  rw [w2_nat, e1, g2 8 _ h1, by_mod s1 s2 (fun y hy => (c3 y hy).1) 8]
  exact Nat.mod_eq_of_lt h2
theorem low4 : ∀ y, y < 256 → s12 y ≤ 68 := by decide +kernel
theorem by_bd : ∀ (n x : Nat), by_ s12 (n + 1) x < 69 * 256 ^ n
  | 0, x => by
    have k := low4 (x % 256) (by omega)
    show s12 (x % 256) + 256 * 0 < 69 * 256 ^ 0
    omega
  | n + 1, x => by
    have k := low4 (x % 256) (by omega)
    have m := by_bd n (x / 256)
    show s12 (x % 256) + 256 * by_ s12 (n + 1) (x / 256) < 69 * 256 ^ (n + 1)
    rw [Nat.pow_succ]
    omega
theorem w123_nat (a : BitVec 64) : (w3 (w2 (w1 a))).toNat = H (mk 15 8) (G (mk 51 8) 4 (G (mk 85 8) 2 a.toNat)) := by
  have b : by_ s12 8 a.toNat < 69 * 256 ^ 7 := by_bd 7 a.toNat
  rw [g123 _ a.isLt, ← g3 8 a.toNat]
  unfold w3 H
  rw [BitVec.toNat_and, BitVec.toNat_add, shr_nat', w12_nat, Nat.mod_eq_of_lt (by omega)]
  rfl
theorem wpar (a : BitVec 64) : decide ((w6 (w5 (w4 (w3 (w2 (w1 a)))))).toNat % 128 % 2 = 1) = par a 64 := by
  refine pop_par a (w3 (w2 (w1 a))).toNat (w4 (w3 (w2 (w1 a)))).toNat (w5 (w4 (w3 (w2 (w1 a))))).toNat _ (w123_nat a) ?_ ?_ ?_
  · unfold w4; rw [BitVec.toNat_add, shr_nat']
  · unfold w5; rw [BitVec.toNat_add, shr_nat']
  · unfold w6; rw [BitVec.toNat_add, shr_nat']
set_option maxRecDepth 100000 in
set_option maxHeartbeats 400000 in
theorem ones_any (a : BitVec 64) (w : World) : Calls Tryz.prog 35 #[.int .u64 (U a)] w fun e w' => (∃ k : Nat, e = .returned (.int .i64 k) ∧ k ≤ 127 ∧ decide (k % 2 = 1) = par a 64) ∧ Below w.heap.size w w' := by
  go_enter Tryz.func35, Tryz.ntmps35
  go_wp2_with fail
  go_ret
  have hX := congrArg (fun z => Ending.returned (Value.int .i64 z)) (S_and127 (w6 (w5 (w4 (w3 (w2 (w1 a)))))))
  have hW := wpar a
  unfold w6 w5 w4 w3 w2 w1 at hX hW
  exact ⟨⟨_, hX, by omega, hW⟩, by (repeat (first | exact Below.refl _ _ | exact Nat.le_refl _ | refine below_drewN ?_ _ | refine Below.drew ?_ | refine Below.alloc ?_ ?_ _ | refine Below.setCell ?_ ?_ _ | refine below_step (by assumption) ?_ ?_)) <;> (first | omega | (simp <;> omega))⟩
set_option maxHeartbeats 400000 in
theorem redxor_x (n : Nat) (a : Vx) (w : World) (ha : a.ok n) (hx : (a.x == 0#64) = false) : Calls Tryz.prog 11 #[.agg #[.int .i64 n, .int .u64 (U a.v), .int .u64 (U a.x)]] w fun e w' => e = .returned (.agg #[.int .i64 1, .int .u64 (U (fl 1 3).v), .int .u64 (U (fl 1 3).x)]) ∧ Below w.heap.size w w' := by
  go_enter Tryz.func11, Tryz.ntmps11
  go_wp2_with fail
  refine (valid_ok n a.v a.x _ ha).mono ?_
  rintro e w1 ⟨rfl, hb1⟩
  obtain ⟨hc1, hf1⟩ := bcell hb1
  have z1_0 : w.heap.size < w1.heap.size := bsize hb1 (by first | omega | (simp <;> omega))
  have z1_1 : w.heap.size + 1 < w1.heap.size := bsize hb1 (by first | omega | (simp <;> omega))
  go_wp2_with fail
  refine (known_no n a _ ha hx).mono ?_
  rintro e w2 ⟨rfl, hb2⟩
  obtain ⟨hc2, hf2⟩ := bcell hb2
  have z2_0 : w.heap.size < w2.heap.size := bsize hb2 (by first | omega | (simp <;> omega))
  have z2_1 : w.heap.size + 1 < w2.heap.size := bsize hb2 (by first | omega | (simp <;> omega))
  go_wp2_with fail
  refine (all_x 1 _ (by decide) (by decide)).mono ?_
  rintro e w3 ⟨rfl, hb3⟩
  obtain ⟨hc3, hf3⟩ := bcell hb3
  have z3_0 : w.heap.size < w3.heap.size := bsize hb3 (by first | omega | (simp <;> omega))
  have z3_1 : w.heap.size + 1 < w3.heap.size := bsize hb3 (by first | omega | (simp <;> omega))
  go_wp2_with fail
  exact bodyPost_ret (v := .agg #[.int .i64 1, .int .u64 (U (fl 1 3).v), .int .u64 (U (fl 1 3).x)]) (by simp [results, Tryz.results11, go_sem, hc1, z1_1, hc2, z2_1, hc3] <;> first | rfl | exact ⟨rfl, rfl⟩ | exact ⟨rfl, rfl, rfl⟩) rfl ⟨rfl, by (repeat (first | exact Below.refl _ _ | exact Nat.le_refl _ | refine below_drewN ?_ _ | refine Below.drew ?_ | refine Below.alloc ?_ ?_ _ | refine Below.setCell ?_ ?_ _ | refine below_step (by assumption) ?_ ?_)) <;> (first | omega | (simp <;> omega))⟩
set_option maxHeartbeats 400000 in
theorem redxor_k (n : Nat) (a : Vx) (w : World) (ha : a.ok n) (hx : (a.x == 0#64) = true) : Calls Tryz.prog 11 #[.agg #[.int .i64 n, .int .u64 (U a.v), .int .u64 (U a.x)]] w fun e w' => e = .returned (.agg #[.int .i64 1, .int .u64 (U (tr (par a.v 64)).v), .int .u64 (U (tr (par a.v 64)).x)]) ∧ Below w.heap.size w w' := by
  go_enter Tryz.func11, Tryz.ntmps11
  go_wp2_with fail
  refine (valid_ok n a.v a.x _ ha).mono ?_
  rintro e w1 ⟨rfl, hb1⟩
  obtain ⟨hc1, hf1⟩ := bcell hb1
  have z1_0 : w.heap.size < w1.heap.size := bsize hb1 (by first | omega | (simp <;> omega))
  have z1_1 : w.heap.size + 1 < w1.heap.size := bsize hb1 (by first | omega | (simp <;> omega))
  go_wp2_with fail
  refine (known_yes n a _ ha hx).mono ?_
  rintro e w2 ⟨rfl, hb2⟩
  obtain ⟨hc2, hf2⟩ := bcell hb2
  have z2_0 : w.heap.size < w2.heap.size := bsize hb2 (by first | omega | (simp <;> omega))
  have z2_1 : w.heap.size + 1 < w2.heap.size := bsize hb2 (by first | omega | (simp <;> omega))
  go_wp2_with fail
  refine (ones_any a.v _).mono ?_
  rintro e w3 ⟨⟨k, rfl, hk, hp⟩, hb3⟩
  obtain ⟨hc3, hf3⟩ := bcell hb3
  have z3_0 : w.heap.size < w3.heap.size := bsize hb3 (by first | omega | (simp <;> omega))
  have z3_1 : w.heap.size + 1 < w3.heap.size := bsize hb3 (by first | omega | (simp <;> omega))
  have ek : ((k : Int) % 2 == 1) = par a.v 64 := by
    rw [← hp, Bool.eq_iff_iff]; simp; omega
  go_wp2_with fail
  refine (truth_ok (par a.v 64) _).mono ?_
  rintro e w4 ⟨rfl, hb4⟩
  obtain ⟨hc4, hf4⟩ := bcell hb4
  go_wp2_with fail
  exact bodyPost_ret (v := .agg #[.int .i64 1, .int .u64 (U (tr (par a.v 64)).v), .int .u64 (U (tr (par a.v 64)).x)]) (by simp [results, Tryz.results11, go_sem, hc1, z1_1, hc2, z2_1, hc3, z3_1, hc4] <;> first | rfl | exact ⟨rfl, rfl⟩ | exact ⟨rfl, rfl, rfl⟩) rfl ⟨rfl, by (repeat (first | exact Below.refl _ _ | exact Nat.le_refl _ | refine below_drewN ?_ _ | refine Below.drew ?_ | refine Below.alloc ?_ ?_ _ | refine Below.setCell ?_ ?_ _ | refine below_step (by assumption) ?_ ?_)) <;> (first | omega | (simp <;> omega))⟩
theorem redxor_ok' (n : Nat) (a : Vx) (w : World) (ha : a.ok n) : Calls Tryz.prog 11 #[.agg #[.int .i64 n, .int .u64 (U a.v), .int .u64 (U a.x)]] w fun e w' => e = .returned (.agg #[.int .i64 1, .int .u64 (U (vredxor a).v), .int .u64 (U (vredxor a).x)]) ∧ Below w.heap.size w w' := by
  unfold vredxor
  by_cases hx : a.x = 0#64
  · rw [if_pos hx]; exact redxor_k n a w ha (by simpa using hx)
  · rw [if_neg hx]; exact redxor_x n a w ha (by simpa using hx)
end Go.Proofs.YtodldcdfdjooaaaGreatDoor
namespace Go.Proofs.YtodldcdfdjooaaaGreatDoor
open Go Go.RowKit Go.Sort
set_option linter.unusedVariables false
/-- a function of one vector, of any vector: its width, and its words -/
def unR (g : Nat → Nat) (f : Nat → Vx → Vx) (a : Rb) : Rb := if a.okB then ⟨g a.W.toNat, (f a.W.toNat ⟨a.v, a.x⟩).v, (f a.W.toNat ⟨a.v, a.x⟩).x⟩ else ZR
theorem unR_ok {g : Nat → Nat} {f : Nat → Vx → Vx} {n : Nat} {a : Vx} (o : a.ok n) : unR g f ⟨n, a.v, a.x⟩ = ⟨g n, (f n a).v, (f n a).x⟩ := by
  unfold unR; rw [show (⟨n, a.v, a.x⟩ : Rb).okB = true from Rb.okB_of o]; rfl
theorem unR_no {g : Nat → Nat} {f : Nat → Vx → Vx} {a : Rb} (h : a.okB = false) : unR g f a = ZR := by unfold unR; rw [h]; rfl
theorem not_any (a : Rb) (w : World) : Calls Tryz.prog 8 #[.agg #[.int .i64 a.W, .int .u64 (U a.v), .int .u64 (U a.x)]] w fun e w' => e = .returned (.agg #[.int .i64 (unR (fun n => n) vnot a).W, .int .u64 (U (unR (fun n => n) vnot a).v), .int .u64 (U (unR (fun n => n) vnot a).x)]) ∧ Below w.heap.size w w' := by
  cases h : a.okB
  · rw [unR_no h]; exact vnot_ill a w h
  · obtain ⟨n, en, o⟩ := Rb.ok_of h
    obtain ⟨aW, av, ax⟩ := a
    obtain rfl : aW = n := en
    have e := unR_ok (g := (fun n => n)) (f := vnot) (a := ⟨av, ax⟩) o
    rw [e]; exact not_ok n ⟨av, ax⟩ w o
theorem redor_any (a : Rb) (w : World) : Calls Tryz.prog 10 #[.agg #[.int .i64 a.W, .int .u64 (U a.v), .int .u64 (U a.x)]] w fun e w' => e = .returned (.agg #[.int .i64 (unR (fun _ => 1) (fun _ => redor) a).W, .int .u64 (U (unR (fun _ => 1) (fun _ => redor) a).v), .int .u64 (U (unR (fun _ => 1) (fun _ => redor) a).x)]) ∧ Below w.heap.size w w' := by
  cases h : a.okB
  · rw [unR_no h]; exact redor_ill a w h
  · obtain ⟨n, en, o⟩ := Rb.ok_of h
    obtain ⟨aW, av, ax⟩ := a
    obtain rfl : aW = n := en
    have e := unR_ok (g := (fun _ => 1)) (f := (fun _ => redor)) (a := ⟨av, ax⟩) o
    rw [e]; exact redor_ok' n ⟨av, ax⟩ w o
set_option maxRecDepth 100000 in
set_option maxHeartbeats 1000000 in
theorem redxor_ill (a : Rb) (w : World) (h : a.okB = false) : Calls Tryz.prog 11 #[.agg #[.int .i64 a.W, .int .u64 (U a.v), .int .u64 (U a.x)]] w fun e w' => e = .returned (.agg #[.int .i64 0, .int .u64 0, .int .u64 0]) ∧ Below w.heap.size w w' := by
  obtain ⟨aW, av, ax⟩ := a
  have va := Lib.hid fun w => valid_no aW av ax w h
  clear h
  show Calls Tryz.prog 11 #[.agg #[.int .i64 aW, .int .u64 (U av), .int .u64 (U ax)]] w _
  go_enter Tryz.func11, Tryz.ntmps11
  go_wp2_with fail
  have C := sb_new (w := w) ⟨aW, av, ax⟩
  generalize ((w.alloc (Obj.cells #[Value.int IntKind.i64 aW, Value.int IntKind.u64 (U av), Value.int IntKind.u64 (U ax)] 24)).alloc (Obj.cells #[Value.int IntKind.i64 0, Value.int IntKind.u64 0, Value.int IntKind.u64 0] 24)) = W at C ⊢
  obtain ⟨⟨a0, a1, a2, af⟩, ⟨p0, p1, p2, pf⟩, lo⟩ := id C
  go_wp2_with fail
  refine (va.out _).mono ?_
  rintro e W1 ⟨rfl, hb⟩
  replace C := C.below hb
  clear a0 a1 a2 af p0 p1 p2 pf lo hb
  obtain ⟨⟨a0, a1, a2, af⟩, ⟨p0, p1, p2, pf⟩, lo⟩ := id C
  go_wp2_with fail
  replace C := C.put 0 0 0
  clear a0 a1 a2 af p0 p1 p2 pf lo
  obtain ⟨⟨a0, a1, a2, af⟩, ⟨p0, p1, p2, pf⟩, lo⟩ := C
  exact bodyPost_ret (v := .agg #[.int .i64 0, .int .u64 0, .int .u64 0]) (by simp [results, Tryz.results11, go_sem, p0, p1, p2]) rfl ⟨rfl, lo⟩
theorem redxor_any (a : Rb) (w : World) : Calls Tryz.prog 11 #[.agg #[.int .i64 a.W, .int .u64 (U a.v), .int .u64 (U a.x)]] w fun e w' => e = .returned (.agg #[.int .i64 (unR (fun _ => 1) (fun _ => vredxor) a).W, .int .u64 (U (unR (fun _ => 1) (fun _ => vredxor) a).v), .int .u64 (U (unR (fun _ => 1) (fun _ => vredxor) a).x)]) ∧ Below w.heap.size w w' := by
  cases h : a.okB
  · rw [unR_no h]; exact redxor_ill a w h
  · obtain ⟨n, en, o⟩ := Rb.ok_of h
    obtain ⟨aW, av, ax⟩ := a
    obtain rfl : aW = n := en
    have e := unR_ok (g := (fun _ => 1)) (f := (fun _ => vredxor)) (a := ⟨av, ax⟩) o
    rw [e]; exact redxor_ok' n ⟨av, ax⟩ w o
set_option maxRecDepth 100000 in
set_option maxHeartbeats 1000000 in
theorem redand_any (a : Rb) (w : World) : Calls Tryz.prog 9 #[.agg #[.int .i64 a.W, .int .u64 (U a.v), .int .u64 (U a.x)]] w fun e w' => e = .returned (.agg #[.int .i64 (unR (fun n => n) vnot (unR (fun _ => 1) (fun _ => redor) (unR (fun n => n) vnot a))).W, .int .u64 (U (unR (fun n => n) vnot (unR (fun _ => 1) (fun _ => redor) (unR (fun n => n) vnot a))).v), .int .u64 (U (unR (fun n => n) vnot (unR (fun _ => 1) (fun _ => redor) (unR (fun n => n) vnot a))).x)]) ∧ Below w.heap.size w w' := by
  obtain ⟨aW, av, ax⟩ := a
  have va := Lib.hid fun w => not_any ⟨aW, av, ax⟩ w
  generalize unR _ vnot ⟨aW, av, ax⟩ = P at va ⊢
  have vb := Lib.hid fun w => redor_any P w
  generalize unR _ (fun _ => redor) P = Q at vb ⊢
  have vc := Lib.hid fun w => not_any Q w
  generalize unR _ vnot Q = T at vc ⊢
  show Calls Tryz.prog 9 #[.agg #[.int .i64 aW, .int .u64 (U av), .int .u64 (U ax)]] w _
  go_enter Tryz.func9, Tryz.ntmps9
  go_wp2_with fail
  have C := sb_new (w := w) ⟨aW, av, ax⟩
  generalize ((w.alloc (Obj.cells #[Value.int IntKind.i64 aW, Value.int IntKind.u64 (U av), Value.int IntKind.u64 (U ax)] 24)).alloc (Obj.cells #[Value.int IntKind.i64 0, Value.int IntKind.u64 0, Value.int IntKind.u64 0] 24)) = W at C ⊢
  obtain ⟨⟨a0, a1, a2, af⟩, ⟨p0, p1, p2, pf⟩, lo⟩ := id C
  go_wp2_with fail
  refine (va.out _).mono ?_
  rintro e W1 ⟨rfl, hb⟩
  replace C := C.below hb
  clear a0 a1 a2 af p0 p1 p2 pf lo hb
  obtain ⟨⟨a0, a1, a2, af⟩, ⟨p0, p1, p2, pf⟩, lo⟩ := id C
  go_wp2_with fail
  refine (vb.out _).mono ?_
  rintro e W2 ⟨rfl, hb⟩
  replace C := C.below hb
  clear a0 a1 a2 af p0 p1 p2 pf lo hb
  obtain ⟨⟨a0, a1, a2, af⟩, ⟨p0, p1, p2, pf⟩, lo⟩ := id C
  go_wp2_with fail
  refine (vc.out _).mono ?_
  rintro e W3 ⟨rfl, hb⟩
  replace C := C.below hb
  clear a0 a1 a2 af p0 p1 p2 pf lo hb
  obtain ⟨⟨a0, a1, a2, af⟩, ⟨p0, p1, p2, pf⟩, lo⟩ := id C
  go_wp2_with fail
  replace C := C.put T.W (U T.v) (U T.x)
  clear a0 a1 a2 af p0 p1 p2 pf lo
  obtain ⟨⟨a0, a1, a2, af⟩, ⟨p0, p1, p2, pf⟩, lo⟩ := C
  exact bodyPost_ret (v := .agg #[.int .i64 T.W, .int .u64 (U T.v), .int .u64 (U T.x)]) (by simp [results, Tryz.results9, go_sem, p0, p1, p2]) rfl ⟨rfl, lo⟩
/-- an operation of two vectors of one width, of any vectors -/
def biR (f : Nat → Vx → Vx → Vx) (a b : Rb) : Rb := if alikeB a b then ⟨a.W, (f a.W.toNat ⟨a.v, a.x⟩ ⟨b.v, b.x⟩).v, (f a.W.toNat ⟨a.v, a.x⟩ ⟨b.v, b.x⟩).x⟩ else ZR
theorem biR_no {f : Nat → Vx → Vx → Vx} {a b : Rb} (h : alikeB a b = false) : biR f a b = ZR := by unfold biR; rw [h]; rfl
theorem biR_ok {f : Nat → Vx → Vx → Vx} {n : Nat} {av ax bv bx : BitVec 64} (h : alikeB ⟨n, av, ax⟩ ⟨n, bv, bx⟩ = true) : biR f ⟨n, av, ax⟩ ⟨n, bv, bx⟩ = ⟨n, (f n ⟨av, ax⟩ ⟨bv, bx⟩).v, (f n ⟨av, ax⟩ ⟨bv, bx⟩).x⟩ := by unfold biR; rw [h]; rfl
set_option maxRecDepth 100000 in
set_option maxHeartbeats 1000000 in
theorem and_ill (a b : Rb) (w : World) (h : alikeB a b = false) : Calls Tryz.prog 48 #[.agg #[.int .i64 a.W, .int .u64 (U a.v), .int .u64 (U a.x)], .agg #[.int .i64 b.W, .int .u64 (U b.v), .int .u64 (U b.x)]] w fun e w' => e = .returned (.agg #[.int .i64 0, .int .u64 0, .int .u64 0]) ∧ Below w.heap.size w w' := by
  obtain ⟨aW, av, ax⟩ := a
  obtain ⟨bW, bv, bx⟩ := b
  have va := Lib.hid fun w => alike_no ⟨aW, av, ax⟩ ⟨bW, bv, bx⟩ w h
  clear h
  show Calls Tryz.prog 48 #[.agg #[.int .i64 aW, .int .u64 (U av), .int .u64 (U ax)], .agg #[.int .i64 bW, .int .u64 (U bv), .int .u64 (U bx)]] w _
  go_enter Tryz.func48, Tryz.ntmps48
  go_wp2_with fail
  have C := tb_new (w := w) ⟨aW, av, ax⟩ ⟨bW, bv, bx⟩
  generalize (((w.alloc (Obj.cells #[Value.int IntKind.i64 aW, Value.int IntKind.u64 (U av), Value.int IntKind.u64 (U ax)] 24)).alloc (Obj.cells #[Value.int IntKind.i64 bW, Value.int IntKind.u64 (U bv), Value.int IntKind.u64 (U bx)] 24)).alloc (Obj.cells #[Value.int IntKind.i64 0, Value.int IntKind.u64 0, Value.int IntKind.u64 0] 24)) = W at C ⊢
  obtain ⟨⟨a0, a1, a2, af⟩, ⟨b0, b1, b2, bf⟩, ⟨p0, p1, p2, pf⟩, lo⟩ := id C
  go_wp2_with fail
  refine (va.out _).mono ?_
  rintro e W1 ⟨rfl, hb⟩
  replace C := C.below hb
  clear a0 a1 a2 af b0 b1 b2 bf p0 p1 p2 pf lo hb
  obtain ⟨⟨a0, a1, a2, af⟩, ⟨b0, b1, b2, bf⟩, ⟨p0, p1, p2, pf⟩, lo⟩ := id C
  go_wp2_with fail
  replace C := C.put 0 0 0
  clear a0 a1 a2 af b0 b1 b2 bf p0 p1 p2 pf lo
  obtain ⟨⟨a0, a1, a2, af⟩, ⟨b0, b1, b2, bf⟩, ⟨p0, p1, p2, pf⟩, lo⟩ := C
  exact bodyPost_ret (v := .agg #[.int .i64 0, .int .u64 0, .int .u64 0]) (by simp [results, Tryz.results48, go_sem, p0, p1, p2]) rfl ⟨rfl, lo⟩
theorem and_any (a b : Rb) (w : World) : Calls Tryz.prog 48 #[.agg #[.int .i64 a.W, .int .u64 (U a.v), .int .u64 (U a.x)], .agg #[.int .i64 b.W, .int .u64 (U b.v), .int .u64 (U b.x)]] w fun e w' => e = .returned (.agg #[.int .i64 (biR vand a b).W, .int .u64 (U (biR vand a b).v), .int .u64 (U (biR vand a b).x)]) ∧ Below w.heap.size w w' := by
  cases h : alikeB a b
  · rw [biR_no h]; exact and_ill a b w h
  · obtain ⟨n, en, em, oa, ob⟩ := alike_of h
    obtain ⟨aW, av, ax⟩ := a
    obtain ⟨bW, bv, bx⟩ := b
    obtain rfl : aW = n := en
    obtain rfl : bW = n := em
    rw [biR_ok h]; exact and_ok n ⟨av, ax⟩ ⟨bv, bx⟩ w oa ob
set_option maxRecDepth 100000 in
set_option maxHeartbeats 1000000 in
theorem or_ill (a b : Rb) (w : World) (h : alikeB a b = false) : Calls Tryz.prog 49 #[.agg #[.int .i64 a.W, .int .u64 (U a.v), .int .u64 (U a.x)], .agg #[.int .i64 b.W, .int .u64 (U b.v), .int .u64 (U b.x)]] w fun e w' => e = .returned (.agg #[.int .i64 0, .int .u64 0, .int .u64 0]) ∧ Below w.heap.size w w' := by
  obtain ⟨aW, av, ax⟩ := a
  obtain ⟨bW, bv, bx⟩ := b
  have va := Lib.hid fun w => alike_no ⟨aW, av, ax⟩ ⟨bW, bv, bx⟩ w h
  clear h
  show Calls Tryz.prog 49 #[.agg #[.int .i64 aW, .int .u64 (U av), .int .u64 (U ax)], .agg #[.int .i64 bW, .int .u64 (U bv), .int .u64 (U bx)]] w _
  go_enter Tryz.func49, Tryz.ntmps49
  go_wp2_with fail
  have C := tb_new (w := w) ⟨aW, av, ax⟩ ⟨bW, bv, bx⟩
  generalize (((w.alloc (Obj.cells #[Value.int IntKind.i64 aW, Value.int IntKind.u64 (U av), Value.int IntKind.u64 (U ax)] 24)).alloc (Obj.cells #[Value.int IntKind.i64 bW, Value.int IntKind.u64 (U bv), Value.int IntKind.u64 (U bx)] 24)).alloc (Obj.cells #[Value.int IntKind.i64 0, Value.int IntKind.u64 0, Value.int IntKind.u64 0] 24)) = W at C ⊢
  obtain ⟨⟨a0, a1, a2, af⟩, ⟨b0, b1, b2, bf⟩, ⟨p0, p1, p2, pf⟩, lo⟩ := id C
  go_wp2_with fail
  refine (va.out _).mono ?_
  rintro e W1 ⟨rfl, hb⟩
  replace C := C.below hb
  clear a0 a1 a2 af b0 b1 b2 bf p0 p1 p2 pf lo hb
  obtain ⟨⟨a0, a1, a2, af⟩, ⟨b0, b1, b2, bf⟩, ⟨p0, p1, p2, pf⟩, lo⟩ := id C
  go_wp2_with fail
  replace C := C.put 0 0 0
  clear a0 a1 a2 af b0 b1 b2 bf p0 p1 p2 pf lo
  obtain ⟨⟨a0, a1, a2, af⟩, ⟨b0, b1, b2, bf⟩, ⟨p0, p1, p2, pf⟩, lo⟩ := C
  exact bodyPost_ret (v := .agg #[.int .i64 0, .int .u64 0, .int .u64 0]) (by simp [results, Tryz.results49, go_sem, p0, p1, p2]) rfl ⟨rfl, lo⟩
theorem or_any (a b : Rb) (w : World) : Calls Tryz.prog 49 #[.agg #[.int .i64 a.W, .int .u64 (U a.v), .int .u64 (U a.x)], .agg #[.int .i64 b.W, .int .u64 (U b.v), .int .u64 (U b.x)]] w fun e w' => e = .returned (.agg #[.int .i64 (biR vor a b).W, .int .u64 (U (biR vor a b).v), .int .u64 (U (biR vor a b).x)]) ∧ Below w.heap.size w w' := by
  cases h : alikeB a b
  · rw [biR_no h]; exact or_ill a b w h
  · obtain ⟨n, en, em, oa, ob⟩ := alike_of h
    obtain ⟨aW, av, ax⟩ := a
    obtain ⟨bW, bv, bx⟩ := b
    obtain rfl : aW = n := en
    obtain rfl : bW = n := em
    rw [biR_ok h]; exact or_ok n ⟨av, ax⟩ ⟨bv, bx⟩ w oa ob
set_option maxRecDepth 100000 in
set_option maxHeartbeats 1000000 in
theorem xor_ill (a b : Rb) (w : World) (h : alikeB a b = false) : Calls Tryz.prog 50 #[.agg #[.int .i64 a.W, .int .u64 (U a.v), .int .u64 (U a.x)], .agg #[.int .i64 b.W, .int .u64 (U b.v), .int .u64 (U b.x)]] w fun e w' => e = .returned (.agg #[.int .i64 0, .int .u64 0, .int .u64 0]) ∧ Below w.heap.size w w' := by
  obtain ⟨aW, av, ax⟩ := a
  obtain ⟨bW, bv, bx⟩ := b
  have va := Lib.hid fun w => alike_no ⟨aW, av, ax⟩ ⟨bW, bv, bx⟩ w h
  clear h
  show Calls Tryz.prog 50 #[.agg #[.int .i64 aW, .int .u64 (U av), .int .u64 (U ax)], .agg #[.int .i64 bW, .int .u64 (U bv), .int .u64 (U bx)]] w _
  go_enter Tryz.func50, Tryz.ntmps50
  go_wp2_with fail
  have C := tb_new (w := w) ⟨aW, av, ax⟩ ⟨bW, bv, bx⟩
  generalize (((w.alloc (Obj.cells #[Value.int IntKind.i64 aW, Value.int IntKind.u64 (U av), Value.int IntKind.u64 (U ax)] 24)).alloc (Obj.cells #[Value.int IntKind.i64 bW, Value.int IntKind.u64 (U bv), Value.int IntKind.u64 (U bx)] 24)).alloc (Obj.cells #[Value.int IntKind.i64 0, Value.int IntKind.u64 0, Value.int IntKind.u64 0] 24)) = W at C ⊢
  obtain ⟨⟨a0, a1, a2, af⟩, ⟨b0, b1, b2, bf⟩, ⟨p0, p1, p2, pf⟩, lo⟩ := id C
  go_wp2_with fail
  refine (va.out _).mono ?_
  rintro e W1 ⟨rfl, hb⟩
  replace C := C.below hb
  clear a0 a1 a2 af b0 b1 b2 bf p0 p1 p2 pf lo hb
  obtain ⟨⟨a0, a1, a2, af⟩, ⟨b0, b1, b2, bf⟩, ⟨p0, p1, p2, pf⟩, lo⟩ := id C
  go_wp2_with fail
  replace C := C.put 0 0 0
  clear a0 a1 a2 af b0 b1 b2 bf p0 p1 p2 pf lo
  obtain ⟨⟨a0, a1, a2, af⟩, ⟨b0, b1, b2, bf⟩, ⟨p0, p1, p2, pf⟩, lo⟩ := C
  exact bodyPost_ret (v := .agg #[.int .i64 0, .int .u64 0, .int .u64 0]) (by simp [results, Tryz.results50, go_sem, p0, p1, p2]) rfl ⟨rfl, lo⟩
theorem xor_any (a b : Rb) (w : World) : Calls Tryz.prog 50 #[.agg #[.int .i64 a.W, .int .u64 (U a.v), .int .u64 (U a.x)], .agg #[.int .i64 b.W, .int .u64 (U b.v), .int .u64 (U b.x)]] w fun e w' => e = .returned (.agg #[.int .i64 (biR vxor a b).W, .int .u64 (U (biR vxor a b).v), .int .u64 (U (biR vxor a b).x)]) ∧ Below w.heap.size w w' := by
  cases h : alikeB a b
  · rw [biR_no h]; exact xor_ill a b w h
  · obtain ⟨n, en, em, oa, ob⟩ := alike_of h
    obtain ⟨aW, av, ax⟩ := a
    obtain ⟨bW, bv, bx⟩ := b
    obtain rfl : aW = n := en
    obtain rfl : bW = n := em
    rw [biR_ok h]; exact xor_ok n ⟨av, ax⟩ ⟨bv, bx⟩ w oa ob
set_option maxRecDepth 100000 in
set_option maxHeartbeats 2000000 in
theorem land_any (a b : Rb) (w : World) : Calls Tryz.prog 51 #[.agg #[.int .i64 a.W, .int .u64 (U a.v), .int .u64 (U a.x)], .agg #[.int .i64 b.W, .int .u64 (U b.v), .int .u64 (U b.x)]] w fun e w' => e = .returned (.agg #[.int .i64 (biR vand (unR (fun _ => 1) (fun _ => redor) a) (unR (fun _ => 1) (fun _ => redor) b)).W, .int .u64 (U (biR vand (unR (fun _ => 1) (fun _ => redor) a) (unR (fun _ => 1) (fun _ => redor) b)).v), .int .u64 (U (biR vand (unR (fun _ => 1) (fun _ => redor) a) (unR (fun _ => 1) (fun _ => redor) b)).x)]) ∧ Below w.heap.size w w' := by
  obtain ⟨aW, av, ax⟩ := a
  obtain ⟨bW, bv, bx⟩ := b
  have va := Lib.hid fun w => redor_any ⟨aW, av, ax⟩ w
  have vb := Lib.hid fun w => redor_any ⟨bW, bv, bx⟩ w
  generalize unR _ (fun _ => redor) ⟨aW, av, ax⟩ = P at va ⊢
  generalize unR _ (fun _ => redor) ⟨bW, bv, bx⟩ = Q at vb ⊢
  have vc := Lib.hid fun w => and_any P Q w
  generalize biR _ P Q = T at vc ⊢
  show Calls Tryz.prog 51 #[.agg #[.int .i64 aW, .int .u64 (U av), .int .u64 (U ax)], .agg #[.int .i64 bW, .int .u64 (U bv), .int .u64 (U bx)]] w _
  go_enter Tryz.func51, Tryz.ntmps51
  go_wp2_with fail
  have C := tb_new (w := w) ⟨aW, av, ax⟩ ⟨bW, bv, bx⟩
  generalize (((w.alloc (Obj.cells #[Value.int IntKind.i64 aW, Value.int IntKind.u64 (U av), Value.int IntKind.u64 (U ax)] 24)).alloc (Obj.cells #[Value.int IntKind.i64 bW, Value.int IntKind.u64 (U bv), Value.int IntKind.u64 (U bx)] 24)).alloc (Obj.cells #[Value.int IntKind.i64 0, Value.int IntKind.u64 0, Value.int IntKind.u64 0] 24)) = W at C ⊢
  obtain ⟨⟨a0, a1, a2, af⟩, ⟨b0, b1, b2, bf⟩, ⟨p0, p1, p2, pf⟩, lo⟩ := id C
  go_wp2_with fail
  have ga0 := cell_regrown a0
  have ga1 := cell_regrown a1
  have ga2 := cell_regrown a2
  have gb0 := cell_regrown b0
  have gb1 := cell_regrown b1
  have gb2 := cell_regrown b2
  refine wp_region_rel 5 (by kernel_rfl) (by kernel_rfl) ?_
  simp only [List.take_succ_cons, List.take_zero, List.drop_succ_cons, List.drop_zero]
  (refine rel_fix0 (fun K hK => ?_); go_simp; refine hK _ ?_; clear hK K)
  (refine rel_fix0 (fun K hK => ?_); go_simp; apply Exists.intro; refine ⟨fun _ _ => ?_, hK _ ?_⟩; (with_reducible exact ret_fix (va.out _)); clear hK K)
  (refine rel_fix0 (fun K hK => ?_); go_simp; refine hK _ ?_; clear hK K)
  (refine rel_fix0 (fun K hK => ?_); go_simp; apply Exists.intro; refine ⟨fun _ _ => ?_, hK _ ?_⟩; (with_reducible exact ret_fix (vb.out _)); clear hK K)
  (refine rel_fix0 (fun K hK => ?_); go_simp; apply Exists.intro; refine ⟨fun _ _ => ?_, hK _ ?_⟩; (with_reducible exact ret_fix (vc.out _)); clear hK K)
  refine rel_nil ?_
  intro d os
  simp only [relAll]
  clear ga0 ga1 ga2 gb0 gb1 gb2
  clear a0 a1 a2 af b0 b1 b2 bf p0 p1 p2 pf lo
  replace C := C.below (below_regrown _ d os)
  generalize grow (redrawn _ d) os = W9 at C ⊢
  obtain ⟨⟨a0, a1, a2, af⟩, ⟨b0, b1, b2, bf⟩, ⟨p0, p1, p2, pf⟩, lo⟩ := id C
  go_wp2_with fail
  replace C := C.put T.W (U T.v) (U T.x)
  clear a0 a1 a2 af b0 b1 b2 bf p0 p1 p2 pf lo
  obtain ⟨⟨a0, a1, a2, af⟩, ⟨b0, b1, b2, bf⟩, ⟨p0, p1, p2, pf⟩, lo⟩ := C
  exact bodyPost_ret (v := .agg #[.int .i64 T.W, .int .u64 (U T.v), .int .u64 (U T.x)]) (by simp [results, Tryz.results51, go_sem, p0, p1, p2]) rfl ⟨rfl, lo⟩
set_option maxRecDepth 100000 in
set_option maxHeartbeats 2000000 in
theorem lor_any (a b : Rb) (w : World) : Calls Tryz.prog 52 #[.agg #[.int .i64 a.W, .int .u64 (U a.v), .int .u64 (U a.x)], .agg #[.int .i64 b.W, .int .u64 (U b.v), .int .u64 (U b.x)]] w fun e w' => e = .returned (.agg #[.int .i64 (biR vor (unR (fun _ => 1) (fun _ => redor) a) (unR (fun _ => 1) (fun _ => redor) b)).W, .int .u64 (U (biR vor (unR (fun _ => 1) (fun _ => redor) a) (unR (fun _ => 1) (fun _ => redor) b)).v), .int .u64 (U (biR vor (unR (fun _ => 1) (fun _ => redor) a) (unR (fun _ => 1) (fun _ => redor) b)).x)]) ∧ Below w.heap.size w w' := by
  obtain ⟨aW, av, ax⟩ := a
  obtain ⟨bW, bv, bx⟩ := b
  have va := Lib.hid fun w => redor_any ⟨aW, av, ax⟩ w
  have vb := Lib.hid fun w => redor_any ⟨bW, bv, bx⟩ w
  generalize unR _ (fun _ => redor) ⟨aW, av, ax⟩ = P at va ⊢
  generalize unR _ (fun _ => redor) ⟨bW, bv, bx⟩ = Q at vb ⊢
  have vc := Lib.hid fun w => or_any P Q w
  generalize biR _ P Q = T at vc ⊢
  show Calls Tryz.prog 52 #[.agg #[.int .i64 aW, .int .u64 (U av), .int .u64 (U ax)], .agg #[.int .i64 bW, .int .u64 (U bv), .int .u64 (U bx)]] w _
  go_enter Tryz.func52, Tryz.ntmps52
  go_wp2_with fail
  have C := tb_new (w := w) ⟨aW, av, ax⟩ ⟨bW, bv, bx⟩
  generalize (((w.alloc (Obj.cells #[Value.int IntKind.i64 aW, Value.int IntKind.u64 (U av), Value.int IntKind.u64 (U ax)] 24)).alloc (Obj.cells #[Value.int IntKind.i64 bW, Value.int IntKind.u64 (U bv), Value.int IntKind.u64 (U bx)] 24)).alloc (Obj.cells #[Value.int IntKind.i64 0, Value.int IntKind.u64 0, Value.int IntKind.u64 0] 24)) = W at C ⊢
  obtain ⟨⟨a0, a1, a2, af⟩, ⟨b0, b1, b2, bf⟩, ⟨p0, p1, p2, pf⟩, lo⟩ := id C
  go_wp2_with fail
  have ga0 := cell_regrown a0
  have ga1 := cell_regrown a1
  have ga2 := cell_regrown a2
  have gb0 := cell_regrown b0
  have gb1 := cell_regrown b1
  have gb2 := cell_regrown b2
  refine wp_region_rel 5 (by kernel_rfl) (by kernel_rfl) ?_
  simp only [List.take_succ_cons, List.take_zero, List.drop_succ_cons, List.drop_zero]
  (refine rel_fix0 (fun K hK => ?_); go_simp; refine hK _ ?_; clear hK K)
  (refine rel_fix0 (fun K hK => ?_); go_simp; apply Exists.intro; refine ⟨fun _ _ => ?_, hK _ ?_⟩; (with_reducible exact ret_fix (va.out _)); clear hK K)
  (refine rel_fix0 (fun K hK => ?_); go_simp; refine hK _ ?_; clear hK K)
  (refine rel_fix0 (fun K hK => ?_); go_simp; apply Exists.intro; refine ⟨fun _ _ => ?_, hK _ ?_⟩; (with_reducible exact ret_fix (vb.out _)); clear hK K)
  (refine rel_fix0 (fun K hK => ?_); go_simp; apply Exists.intro; refine ⟨fun _ _ => ?_, hK _ ?_⟩; (with_reducible exact ret_fix (vc.out _)); clear hK K)
  refine rel_nil ?_
  intro d os
  simp only [relAll]
  clear ga0 ga1 ga2 gb0 gb1 gb2
  clear a0 a1 a2 af b0 b1 b2 bf p0 p1 p2 pf lo
  replace C := C.below (below_regrown _ d os)
  generalize grow (redrawn _ d) os = W9 at C ⊢
  obtain ⟨⟨a0, a1, a2, af⟩, ⟨b0, b1, b2, bf⟩, ⟨p0, p1, p2, pf⟩, lo⟩ := id C
  go_wp2_with fail
  replace C := C.put T.W (U T.v) (U T.x)
  clear a0 a1 a2 af b0 b1 b2 bf p0 p1 p2 pf lo
  obtain ⟨⟨a0, a1, a2, af⟩, ⟨b0, b1, b2, bf⟩, ⟨p0, p1, p2, pf⟩, lo⟩ := C
  exact bodyPost_ret (v := .agg #[.int .i64 T.W, .int .u64 (U T.v), .int .u64 (U T.x)]) (by simp [results, Tryz.results52, go_sem, p0, p1, p2]) rfl ⟨rfl, lo⟩
end Go.Proofs.YtodldcdfdjooaaaGreatDoor
namespace Go.Proofs.YtodldcdfdjooaaaGreatDoor
open Go Go.RowKit Go.Sort
set_option linter.unusedVariables false
def zx (c : UInt8) : UInt8 := if c = 122 then 120 else c
/-- what the first k + 1 states make together -/
def fk (f : UInt8 → UInt8 → UInt8) (l : List UInt8) : Nat → UInt8
  | 0 => l.getD 0 0
  | k + 1 => f (fk f l k) (l.getD (k + 1) 0)
set_option maxRecDepth 100000 in
set_option maxHeartbeats 4000000 in
theorem each_and (v u : Value) (l m : List UInt8) (hlm : l.length = m.length) (hl : l.length ≤ 1000000) (w : World) (h : Row8 w v l) (h' : Row8 w u m) :
    Calls Tryz.prog 85 #[v, u, .func (Fn.func 70) #[] #[]] w fun e w' => ∃ v, e = .returned v ∧ Row8 w' v (List.zipWith andB l m) ∧ Below w.heap.size w w' := by
  obtain ⟨i0, hi, hz0, hz1, hz2⟩ := info_parts info5
  obtain ⟨a, cap, rfl, h0⟩ := h.sh
  obtain ⟨b, capb, rfl, h0b⟩ := h'.sh
  have H0 := Lib.hid h0
  have H0b := Lib.hid h0b
  have HF := Lib.hid andB_ok
  clear h h0 h' h0b
  generalize hn : l.length = n at hl hlm ⊢
  have HM := Lib.hid hlm.symm
  rw [← hlm]
  have HN := Lib.hid hn
  clear hn hlm
  go_enter Tryz.func85, Tryz.ntmps85
  go_wp2_with fail
  go_loopw [7, 11] (fun v i wr => ∃ k : Nat, k ≤ n ∧ i = .int .i64 k ∧ wr.ownsRow w.heap.size 5 1 v k (Lib.byteCells (List.zipWith andB (l.take k) (m.take k))) ∧ Below w.heap.size w wr) (fun _ i _ => n - (intOf i).toNat)
  case atStart => exact ⟨0, Nat.zero_le _, rfl, World.ownsRow_nil _ _ _ _, Below.refl _ _⟩
  case round =>
    obtain ⟨k, hk, rfl, hown, hlo⟩ := hrel
    have Hlen := Lib.hid (zw_len andB (l := l) (m := m) (k := k) (by rw [HN.out]; exact hk) (by rw [HM.out]; exact hk))
    by_cases hlt : k < n
    · have hkl : k < l.length := by rw [HN.out]; exact hlt
      have hkm : k < m.length := by rw [HM.out]; exact hlt
      obtain ⟨bl, off, rfl, hc⟩ := Row8.nth (cap := cap) (n := n) H0.out hkl
      obtain ⟨bm, ofm, rfl, hcm⟩ := Row8.nth (cap := capb) (n := n) H0b.out hkm
      have hk0 : (0 : Int) ≤ (k : Int) := by omega
      have hk1 : (k : Int) < (n : Int) := by omega
      have HC : Lib.byteCells (List.zipWith andB (l.take (k + 1)) (m.take (k + 1))) = Lib.byteCells (List.zipWith andB (l.take k) (m.take k)) ++ [Value.int .u8 (andB l[k] m[k]).toNat] := by
        rw [zw_snoc andB hkl hkm]; unfold Lib.byteCells; simp
      have HCC := Lib.hid HC
      clear HC
      have hfc := fun w => HF.out l[k] m[k] w
      generalize andB l[k] m[k] = z at hfc HCC
      generalize l[k] = x at hc hfc
      generalize m[k] = y at hcm hfc
      have HFC := Lib.hid hfc
      clear hfc
      have pc := ((bcell hlo).1 _ _ (World.block_lt_of_cell? w _ hc)).trans hc
      have pcm := ((bcell hlo).1 _ _ (World.block_lt_of_cell? w _ hcm)).trans hcm
      clear hc hcm
      go_wp2_with fail
      have rc := cell_regrown pc
      have rcm := cell_regrown pcm
      refine wp_region_rel 12 (by kernel_rfl) (by kernel_rfl) ?_
      simp only [List.take_succ_cons, List.take_zero, List.drop_succ_cons, List.drop_zero]
      repeat (refine rel_fix0 (fun K hK => ?_); go_simp; first | (refine hK _ ?_; clear hK K) | (apply Exists.intro; refine ⟨fun _ _ => ?_, hK _ ?_⟩; (with_reducible exact ret_same (HFC.out _)); clear hK K))
      refine rel_fact [] (One8 z.toNat) 25 rfl (by simp) (one8_sta _) rfl rfl rfl ?_ ?_
      · intro d os
        go_simp
        exact ⟨⟨_, rfl, by go_simp⟩, (Below.refl _ _).alloc (Nat.le_of_eq Array.size_append.symm) _⟩
      refine rel_nil ?_
      intro d os
      simp only [relAll]
      rintro uz ⟨bz, rfl, hz⟩
      have hb9 := below_regrown wr d os
      have hown2 := own_below hown hb9
      have hlo2 : Below w.heap.size w (grow (redrawn wr d) os) := hlo.trans (hb9.mono hlo.size)
      clear rc rcm pc pcm hlo hown hb9
      generalize grow (redrawn wr d) os = wd at hlo2 hown2 hz ⊢
      go_wp2_with (at_builtin; refine wpList_append_own _ rfl _ _ 30 rfl w.heap.size 5 i0 (.int .u8 0) 1 1 Tryz.underlying30 hi hz0 hz1 hz2 rfl (by decide) _ _ _ rfl hown2 ⟨bz, 0, none⟩ 1 1 [.int .u8 z.toNat] rfl rfl ?d1 ?d2 ?d3 ?d4 ?d5 ?_)
      case d1 =>
        intro q u hq
        match q, hq with
        | 0, hq => simp at hq; subst hq; simpa [Addr.add] using hz
      case d2 => intro u hu; simp at hu; subst hu; rfl
      case d3 => unfold maxLen; omega
      case d4 => omega
      case d5 => exact hlo2.size
      intro v5 w5 hown5 hgr5 _
      have T : w5.ownsRow w.heap.size 5 1 v5 (k + 1) (Lib.byteCells (List.zipWith andB (l.take (k + 1)) (m.take (k + 1)))) ∧ Below w.heap.size w w5 := by
        rw [HCC.out]
        exact ⟨hown5, hlo2.grown hgr5 hlo2.size (fun k hk => (hown2.lt k hk).1)⟩
      clear hown5 hgr5
      go_wp2_with fail
      go_roundw
      case rel => exact ⟨k + 1, by omega, by go_num, T⟩
      case measure => simp [intOf]; omega
    · have hkn : k = n := by omega
      have Hkn := Lib.hid hkn
      clear hkn
      go_wp2_with fail
      go_ret
      refine ⟨_, rfl, ?_, hlo⟩
      have h := row8_own (B := w.heap.size) (v := _) (l := List.zipWith andB (l.take k) (m.take k)) (by rw [Hlen.out]; exact hown)
      have e1 : l.take k = l := List.take_of_length_le (by rw [HN.out, Hkn.out]; exact Nat.le_refl _)
      have e2 : m.take k = m := List.take_of_length_le (by rw [HM.out, Hkn.out]; exact Nat.le_refl _)
      rw [e1, e2] at h; exact h
set_option maxRecDepth 100000 in
set_option maxHeartbeats 4000000 in
theorem fold_and (v : Value) (l : List UInt8) (q : Nat) (hn : l.length = q + 1) (hl : q ≤ 1000000) (w : World) (h : Row8 w v l) :
    Calls Tryz.prog 69 #[v, .func (Fn.func 70) #[] #[]] w fun e w' => ∃ r, e = .returned r ∧ Row8 w' r [zx (fk andB l q)] ∧ Below w.heap.size w w' := by
  obtain ⟨a, cap, rfl, -⟩ := id h.sh
  have hcap := h.cp _ _ _ rfl
  obtain ⟨bl, off, rfl, -, hc⟩ := row_nth h (k := 0) (by omega)
  have HC := Lib.hid hc
  have c0 := hc 0 (by omega)
  have HX : Hid (fk andB l 0 = l[0]'(by omega)) := Lib.hid (getD_at (by omega))
  clear h hc
  rw [Nat.add_zero] at c0
  generalize l[0]'(by omega) = x0 at c0 HX
  rw [hn] at hcap
  have HN := Lib.hid hn
  rw [hn]
  clear hn
  have hq0 : (0 : Int) < ((q + 1 : Nat) : Int) := by omega
  have hq1 : (1 : Int) ≤ ((q + 1 : Nat) : Int) := by omega
  have hq2 : ((q + 1 : Nat) : Int) ≤ (cap : Int) := by omega
  have hsp : (cap = 1 ∧ q = 0) ∨ 2 ≤ cap := by omega
  rcases hsp with ⟨rfl, rfl⟩ | hp
  · skip
    go_enter Tryz.func69, Tryz.ntmps69
    go_wp2_with fail
    go_loopw [5, 14] (fun s5 s14 wr => ∃ k : Nat, k ≤ 0 ∧ s14 = .int .i64 k ∧ s5 = .int .u8 ((fk andB l k).toNat : Int) ∧ w = wr) (fun _ s14 _ => 0 - (intOf s14).toNat)
    case atStart => exact ⟨0, Nat.zero_le _, rfl, by rw [HX.out], rfl⟩
    case round =>
      obtain ⟨k, hk, rfl, rfl, rfl⟩ := hrel
      obtain rfl : k = 0 := by omega
      · skip
        obtain ⟨c, hcc⟩ : ∃ c, fk andB l 0 = c := ⟨_, rfl⟩
        rw [hcc]
        have HCC := Lib.hid hcc
        clear hcc
        by_cases e : c = 122
        · have t1 : ((c.toNat : Int) == 122) = true := by rw [e]; rfl
          have HZ := Lib.hid (show zx c = 120 from by unfold zx; rw [if_pos e])
          clear e
          go_wp2_with fail
          go_ret
          exact ⟨_, rfl, by rw [HCC.out, HZ.out]; exact row8_one (by go_simp), (Below.refl _ _).alloc (Nat.le_refl _) _⟩
        · have t1 : ((c.toNat : Int) == 122) = false := beq_eq_false_iff_ne.2 (fun h => e (UInt8.toNat_inj.1 (by simpa using Int.ofNat_inj.1 h)))
          have HZ := Lib.hid (show zx c = c from by unfold zx; rw [if_neg e])
          clear e
          go_wp2_with fail
          go_ret
          exact ⟨_, rfl, by rw [HCC.out, HZ.out]; exact row8_one (by go_simp), (Below.refl _ _).alloc (Nat.le_refl _) _⟩
  · have hp1 : ¬ cap = 1 := by omega
    have hp2 : ¬ ((cap : Int) = 1) := by omega
    have hp3 : ¬ ((cap : Int) - 1 = 0) := by omega
    have hp4 : ¬ cap - 1 = 0 := by omega
    have hp5 : ¬ cap ≤ 1 := by omega
    go_enter Tryz.func69, Tryz.ntmps69
    go_wp2_with fail
    go_loopw [5, 14] (fun s5 s14 wr => ∃ k : Nat, k ≤ q ∧ s14 = .int .i64 k ∧ s5 = .int .u8 ((fk andB l k).toNat : Int) ∧ w = wr) (fun _ s14 _ => q - (intOf s14).toNat)
    case atStart => exact ⟨0, Nat.zero_le _, rfl, by rw [HX.out], rfl⟩
    case round =>
      obtain ⟨k, hk, rfl, rfl, rfl⟩ := hrel
      by_cases hlt : k < q
      · have hkl : k + 1 < l.length := by rw [HN.out]; omega
        have c1 := HC.out (k + 1) hkl
        have HK := Lib.hid (show fk andB l (k + 1) = andB (fk andB l k) l[k + 1] from by rw [← getD_at hkl]; rfl)
        rw [show off + (k + 1) = off + 1 + k from by omega] at c1
        have hk0 : (0 : Int) ≤ (k : Int) := by omega
        have hk1 : (k : Int) < (q : Int) := by omega
        clear c0
        generalize l[k + 1] = x at c1 HK
        generalize fk andB l k = c at HK ⊢
        go_wp2_with fail
        refine (andB_ok c x _).mono ?_
        rintro e w1 ⟨rfl, rfl⟩
        go_wp2_with fail
        go_roundw
        case rel => exact ⟨k + 1, by omega, by go_num, by rw [HK.out], by first | rfl | trivial⟩
        case measure => simp [intOf]; omega
      · have hkn : k = q := by omega
        subst hkn
        obtain ⟨c, hcc⟩ : ∃ c, fk andB l k = c := ⟨_, rfl⟩
        rw [hcc]
        have HCC := Lib.hid hcc
        clear hcc
        by_cases e : c = 122
        · have t1 : ((c.toNat : Int) == 122) = true := by rw [e]; rfl
          have HZ := Lib.hid (show zx c = 120 from by unfold zx; rw [if_pos e])
          clear e
          go_wp2_with fail
          go_ret
          exact ⟨_, rfl, by rw [HCC.out, HZ.out]; exact row8_one (by go_simp), (Below.refl _ _).alloc (Nat.le_refl _) _⟩
        · have t1 : ((c.toNat : Int) == 122) = false := beq_eq_false_iff_ne.2 (fun h => e (UInt8.toNat_inj.1 (by simpa using Int.ofNat_inj.1 h)))
          have HZ := Lib.hid (show zx c = c from by unfold zx; rw [if_neg e])
          clear e
          go_wp2_with fail
          go_ret
          exact ⟨_, rfl, by rw [HCC.out, HZ.out]; exact row8_one (by go_simp), (Below.refl _ _).alloc (Nat.le_refl _) _⟩
set_option maxRecDepth 100000 in
set_option maxHeartbeats 4000000 in
theorem each_or (v u : Value) (l m : List UInt8) (hlm : l.length = m.length) (hl : l.length ≤ 1000000) (w : World) (h : Row8 w v l) (h' : Row8 w u m) :
    Calls Tryz.prog 85 #[v, u, .func (Fn.func 71) #[] #[]] w fun e w' => ∃ v, e = .returned v ∧ Row8 w' v (List.zipWith orB l m) ∧ Below w.heap.size w w' := by
  obtain ⟨i0, hi, hz0, hz1, hz2⟩ := info_parts info5
  obtain ⟨a, cap, rfl, h0⟩ := h.sh
  obtain ⟨b, capb, rfl, h0b⟩ := h'.sh
  have H0 := Lib.hid h0
  have H0b := Lib.hid h0b
  have HF := Lib.hid orB_ok
  clear h h0 h' h0b
  generalize hn : l.length = n at hl hlm ⊢
  have HM := Lib.hid hlm.symm
  rw [← hlm]
  have HN := Lib.hid hn
  clear hn hlm
  go_enter Tryz.func85, Tryz.ntmps85
  go_wp2_with fail
  go_loopw [7, 11] (fun v i wr => ∃ k : Nat, k ≤ n ∧ i = .int .i64 k ∧ wr.ownsRow w.heap.size 5 1 v k (Lib.byteCells (List.zipWith orB (l.take k) (m.take k))) ∧ Below w.heap.size w wr) (fun _ i _ => n - (intOf i).toNat)
  case atStart => exact ⟨0, Nat.zero_le _, rfl, World.ownsRow_nil _ _ _ _, Below.refl _ _⟩
  case round =>
    obtain ⟨k, hk, rfl, hown, hlo⟩ := hrel
    have Hlen := Lib.hid (zw_len orB (l := l) (m := m) (k := k) (by rw [HN.out]; exact hk) (by rw [HM.out]; exact hk))
    by_cases hlt : k < n
    · have hkl : k < l.length := by rw [HN.out]; exact hlt
      have hkm : k < m.length := by rw [HM.out]; exact hlt
      obtain ⟨bl, off, rfl, hc⟩ := Row8.nth (cap := cap) (n := n) H0.out hkl
      obtain ⟨bm, ofm, rfl, hcm⟩ := Row8.nth (cap := capb) (n := n) H0b.out hkm
      have hk0 : (0 : Int) ≤ (k : Int) := by omega
      have hk1 : (k : Int) < (n : Int) := by omega
      have HC : Lib.byteCells (List.zipWith orB (l.take (k + 1)) (m.take (k + 1))) = Lib.byteCells (List.zipWith orB (l.take k) (m.take k)) ++ [Value.int .u8 (orB l[k] m[k]).toNat] := by
        rw [zw_snoc orB hkl hkm]; unfold Lib.byteCells; simp
      have HCC := Lib.hid HC
      clear HC
      have hfc := fun w => HF.out l[k] m[k] w
      generalize orB l[k] m[k] = z at hfc HCC
      generalize l[k] = x at hc hfc
      generalize m[k] = y at hcm hfc
      have HFC := Lib.hid hfc
      clear hfc
      have pc := ((bcell hlo).1 _ _ (World.block_lt_of_cell? w _ hc)).trans hc
      have pcm := ((bcell hlo).1 _ _ (World.block_lt_of_cell? w _ hcm)).trans hcm
      clear hc hcm
      go_wp2_with fail
      have rc := cell_regrown pc
      have rcm := cell_regrown pcm
      refine wp_region_rel 12 (by kernel_rfl) (by kernel_rfl) ?_
      simp only [List.take_succ_cons, List.take_zero, List.drop_succ_cons, List.drop_zero]
      repeat (refine rel_fix0 (fun K hK => ?_); go_simp; first | (refine hK _ ?_; clear hK K) | (apply Exists.intro; refine ⟨fun _ _ => ?_, hK _ ?_⟩; (with_reducible exact ret_same (HFC.out _)); clear hK K))
      refine rel_fact [] (One8 z.toNat) 25 rfl (by simp) (one8_sta _) rfl rfl rfl ?_ ?_
      · intro d os
        go_simp
        exact ⟨⟨_, rfl, by go_simp⟩, (Below.refl _ _).alloc (Nat.le_of_eq Array.size_append.symm) _⟩
      refine rel_nil ?_
      intro d os
      simp only [relAll]
      rintro uz ⟨bz, rfl, hz⟩
      have hb9 := below_regrown wr d os
      have hown2 := own_below hown hb9
      have hlo2 : Below w.heap.size w (grow (redrawn wr d) os) := hlo.trans (hb9.mono hlo.size)
      clear rc rcm pc pcm hlo hown hb9
      generalize grow (redrawn wr d) os = wd at hlo2 hown2 hz ⊢
      go_wp2_with (at_builtin; refine wpList_append_own _ rfl _ _ 30 rfl w.heap.size 5 i0 (.int .u8 0) 1 1 Tryz.underlying30 hi hz0 hz1 hz2 rfl (by decide) _ _ _ rfl hown2 ⟨bz, 0, none⟩ 1 1 [.int .u8 z.toNat] rfl rfl ?d1 ?d2 ?d3 ?d4 ?d5 ?_)
      case d1 =>
        intro q u hq
        match q, hq with
        | 0, hq => simp at hq; subst hq; simpa [Addr.add] using hz
      case d2 => intro u hu; simp at hu; subst hu; rfl
      case d3 => unfold maxLen; omega
      case d4 => omega
      case d5 => exact hlo2.size
      intro v5 w5 hown5 hgr5 _
      have T : w5.ownsRow w.heap.size 5 1 v5 (k + 1) (Lib.byteCells (List.zipWith orB (l.take (k + 1)) (m.take (k + 1)))) ∧ Below w.heap.size w w5 := by
        rw [HCC.out]
        exact ⟨hown5, hlo2.grown hgr5 hlo2.size (fun k hk => (hown2.lt k hk).1)⟩
      clear hown5 hgr5
      go_wp2_with fail
      go_roundw
      case rel => exact ⟨k + 1, by omega, by go_num, T⟩
      case measure => simp [intOf]; omega
    · have hkn : k = n := by omega
      have Hkn := Lib.hid hkn
      clear hkn
      go_wp2_with fail
      go_ret
      refine ⟨_, rfl, ?_, hlo⟩
      have h := row8_own (B := w.heap.size) (v := _) (l := List.zipWith orB (l.take k) (m.take k)) (by rw [Hlen.out]; exact hown)
      have e1 : l.take k = l := List.take_of_length_le (by rw [HN.out, Hkn.out]; exact Nat.le_refl _)
      have e2 : m.take k = m := List.take_of_length_le (by rw [HM.out, Hkn.out]; exact Nat.le_refl _)
      rw [e1, e2] at h; exact h
set_option maxRecDepth 100000 in
set_option maxHeartbeats 4000000 in
theorem fold_or (v : Value) (l : List UInt8) (q : Nat) (hn : l.length = q + 1) (hl : q ≤ 1000000) (w : World) (h : Row8 w v l) :
    Calls Tryz.prog 69 #[v, .func (Fn.func 71) #[] #[]] w fun e w' => ∃ r, e = .returned r ∧ Row8 w' r [zx (fk orB l q)] ∧ Below w.heap.size w w' := by
  obtain ⟨a, cap, rfl, -⟩ := id h.sh
  have hcap := h.cp _ _ _ rfl
  obtain ⟨bl, off, rfl, -, hc⟩ := row_nth h (k := 0) (by omega)
  have HC := Lib.hid hc
  have c0 := hc 0 (by omega)
  have HX : Hid (fk orB l 0 = l[0]'(by omega)) := Lib.hid (getD_at (by omega))
  clear h hc
  rw [Nat.add_zero] at c0
  generalize l[0]'(by omega) = x0 at c0 HX
  rw [hn] at hcap
  have HN := Lib.hid hn
  rw [hn]
  clear hn
  have hq0 : (0 : Int) < ((q + 1 : Nat) : Int) := by omega
  have hq1 : (1 : Int) ≤ ((q + 1 : Nat) : Int) := by omega
  have hq2 : ((q + 1 : Nat) : Int) ≤ (cap : Int) := by omega
  have hsp : (cap = 1 ∧ q = 0) ∨ 2 ≤ cap := by omega
  rcases hsp with ⟨rfl, rfl⟩ | hp
  · skip
    go_enter Tryz.func69, Tryz.ntmps69
    go_wp2_with fail
    go_loopw [5, 14] (fun s5 s14 wr => ∃ k : Nat, k ≤ 0 ∧ s14 = .int .i64 k ∧ s5 = .int .u8 ((fk orB l k).toNat : Int) ∧ w = wr) (fun _ s14 _ => 0 - (intOf s14).toNat)
    case atStart => exact ⟨0, Nat.zero_le _, rfl, by rw [HX.out], rfl⟩
    case round =>
      obtain ⟨k, hk, rfl, rfl, rfl⟩ := hrel
      obtain rfl : k = 0 := by omega
      · skip
        obtain ⟨c, hcc⟩ : ∃ c, fk orB l 0 = c := ⟨_, rfl⟩
        rw [hcc]
        have HCC := Lib.hid hcc
        clear hcc
        by_cases e : c = 122
        · have t1 : ((c.toNat : Int) == 122) = true := by rw [e]; rfl
          have HZ := Lib.hid (show zx c = 120 from by unfold zx; rw [if_pos e])
          clear e
          go_wp2_with fail
          go_ret
          exact ⟨_, rfl, by rw [HCC.out, HZ.out]; exact row8_one (by go_simp), (Below.refl _ _).alloc (Nat.le_refl _) _⟩
        · have t1 : ((c.toNat : Int) == 122) = false := beq_eq_false_iff_ne.2 (fun h => e (UInt8.toNat_inj.1 (by simpa using Int.ofNat_inj.1 h)))
          have HZ := Lib.hid (show zx c = c from by unfold zx; rw [if_neg e])
          clear e
          go_wp2_with fail
          go_ret
          exact ⟨_, rfl, by rw [HCC.out, HZ.out]; exact row8_one (by go_simp), (Below.refl _ _).alloc (Nat.le_refl _) _⟩
  · have hp1 : ¬ cap = 1 := by omega
    have hp2 : ¬ ((cap : Int) = 1) := by omega
    have hp3 : ¬ ((cap : Int) - 1 = 0) := by omega
    have hp4 : ¬ cap - 1 = 0 := by omega
    have hp5 : ¬ cap ≤ 1 := by omega
    go_enter Tryz.func69, Tryz.ntmps69
    go_wp2_with fail
    go_loopw [5, 14] (fun s5 s14 wr => ∃ k : Nat, k ≤ q ∧ s14 = .int .i64 k ∧ s5 = .int .u8 ((fk orB l k).toNat : Int) ∧ w = wr) (fun _ s14 _ => q - (intOf s14).toNat)
    case atStart => exact ⟨0, Nat.zero_le _, rfl, by rw [HX.out], rfl⟩
    case round =>
      obtain ⟨k, hk, rfl, rfl, rfl⟩ := hrel
      by_cases hlt : k < q
      · have hkl : k + 1 < l.length := by rw [HN.out]; omega
        have c1 := HC.out (k + 1) hkl
        have HK := Lib.hid (show fk orB l (k + 1) = orB (fk orB l k) l[k + 1] from by rw [← getD_at hkl]; rfl)
        rw [show off + (k + 1) = off + 1 + k from by omega] at c1
        have hk0 : (0 : Int) ≤ (k : Int) := by omega
        have hk1 : (k : Int) < (q : Int) := by omega
        clear c0
        generalize l[k + 1] = x at c1 HK
        generalize fk orB l k = c at HK ⊢
        go_wp2_with fail
        refine (orB_ok c x _).mono ?_
        rintro e w1 ⟨rfl, rfl⟩
        go_wp2_with fail
        go_roundw
        case rel => exact ⟨k + 1, by omega, by go_num, by rw [HK.out], by first | rfl | trivial⟩
        case measure => simp [intOf]; omega
      · have hkn : k = q := by omega
        subst hkn
        obtain ⟨c, hcc⟩ : ∃ c, fk orB l k = c := ⟨_, rfl⟩
        rw [hcc]
        have HCC := Lib.hid hcc
        clear hcc
        by_cases e : c = 122
        · have t1 : ((c.toNat : Int) == 122) = true := by rw [e]; rfl
          have HZ := Lib.hid (show zx c = 120 from by unfold zx; rw [if_pos e])
          clear e
          go_wp2_with fail
          go_ret
          exact ⟨_, rfl, by rw [HCC.out, HZ.out]; exact row8_one (by go_simp), (Below.refl _ _).alloc (Nat.le_refl _) _⟩
        · have t1 : ((c.toNat : Int) == 122) = false := beq_eq_false_iff_ne.2 (fun h => e (UInt8.toNat_inj.1 (by simpa using Int.ofNat_inj.1 h)))
          have HZ := Lib.hid (show zx c = c from by unfold zx; rw [if_neg e])
          clear e
          go_wp2_with fail
          go_ret
          exact ⟨_, rfl, by rw [HCC.out, HZ.out]; exact row8_one (by go_simp), (Below.refl _ _).alloc (Nat.le_refl _) _⟩
set_option maxRecDepth 100000 in
set_option maxHeartbeats 4000000 in
theorem each_xor (v u : Value) (l m : List UInt8) (hlm : l.length = m.length) (hl : l.length ≤ 1000000) (w : World) (h : Row8 w v l) (h' : Row8 w u m) :
    Calls Tryz.prog 85 #[v, u, .func (Fn.func 72) #[] #[]] w fun e w' => ∃ v, e = .returned v ∧ Row8 w' v (List.zipWith xorB l m) ∧ Below w.heap.size w w' := by
  obtain ⟨i0, hi, hz0, hz1, hz2⟩ := info_parts info5
  obtain ⟨a, cap, rfl, h0⟩ := h.sh
  obtain ⟨b, capb, rfl, h0b⟩ := h'.sh
  have H0 := Lib.hid h0
  have H0b := Lib.hid h0b
  have HF := Lib.hid xorB_ok
  clear h h0 h' h0b
  generalize hn : l.length = n at hl hlm ⊢
  have HM := Lib.hid hlm.symm
  rw [← hlm]
  have HN := Lib.hid hn
  clear hn hlm
  go_enter Tryz.func85, Tryz.ntmps85
  go_wp2_with fail
  go_loopw [7, 11] (fun v i wr => ∃ k : Nat, k ≤ n ∧ i = .int .i64 k ∧ wr.ownsRow w.heap.size 5 1 v k (Lib.byteCells (List.zipWith xorB (l.take k) (m.take k))) ∧ Below w.heap.size w wr) (fun _ i _ => n - (intOf i).toNat)
  case atStart => exact ⟨0, Nat.zero_le _, rfl, World.ownsRow_nil _ _ _ _, Below.refl _ _⟩
  case round =>
    obtain ⟨k, hk, rfl, hown, hlo⟩ := hrel
    have Hlen := Lib.hid (zw_len xorB (l := l) (m := m) (k := k) (by rw [HN.out]; exact hk) (by rw [HM.out]; exact hk))
    by_cases hlt : k < n
    · have hkl : k < l.length := by rw [HN.out]; exact hlt
      have hkm : k < m.length := by rw [HM.out]; exact hlt
      obtain ⟨bl, off, rfl, hc⟩ := Row8.nth (cap := cap) (n := n) H0.out hkl
      obtain ⟨bm, ofm, rfl, hcm⟩ := Row8.nth (cap := capb) (n := n) H0b.out hkm
      have hk0 : (0 : Int) ≤ (k : Int) := by omega
      have hk1 : (k : Int) < (n : Int) := by omega
      have HC : Lib.byteCells (List.zipWith xorB (l.take (k + 1)) (m.take (k + 1))) = Lib.byteCells (List.zipWith xorB (l.take k) (m.take k)) ++ [Value.int .u8 (xorB l[k] m[k]).toNat] := by
        rw [zw_snoc xorB hkl hkm]; unfold Lib.byteCells; simp
      have HCC := Lib.hid HC
      clear HC
      have hfc := fun w => HF.out l[k] m[k] w
      generalize xorB l[k] m[k] = z at hfc HCC
      generalize l[k] = x at hc hfc
      generalize m[k] = y at hcm hfc
      have HFC := Lib.hid hfc
      clear hfc
      have pc := ((bcell hlo).1 _ _ (World.block_lt_of_cell? w _ hc)).trans hc
      have pcm := ((bcell hlo).1 _ _ (World.block_lt_of_cell? w _ hcm)).trans hcm
      clear hc hcm
      go_wp2_with fail
      have rc := cell_regrown pc
      have rcm := cell_regrown pcm
      refine wp_region_rel 12 (by kernel_rfl) (by kernel_rfl) ?_
      simp only [List.take_succ_cons, List.take_zero, List.drop_succ_cons, List.drop_zero]
      repeat (refine rel_fix0 (fun K hK => ?_); go_simp; first | (refine hK _ ?_; clear hK K) | (apply Exists.intro; refine ⟨fun _ _ => ?_, hK _ ?_⟩; (with_reducible exact ret_same (HFC.out _)); clear hK K))
      refine rel_fact [] (One8 z.toNat) 25 rfl (by simp) (one8_sta _) rfl rfl rfl ?_ ?_
      · intro d os
        go_simp
        exact ⟨⟨_, rfl, by go_simp⟩, (Below.refl _ _).alloc (Nat.le_of_eq Array.size_append.symm) _⟩
      refine rel_nil ?_
      intro d os
      simp only [relAll]
      rintro uz ⟨bz, rfl, hz⟩
      have hb9 := below_regrown wr d os
      have hown2 := own_below hown hb9
      have hlo2 : Below w.heap.size w (grow (redrawn wr d) os) := hlo.trans (hb9.mono hlo.size)
      clear rc rcm pc pcm hlo hown hb9
      generalize grow (redrawn wr d) os = wd at hlo2 hown2 hz ⊢
      go_wp2_with (at_builtin; refine wpList_append_own _ rfl _ _ 30 rfl w.heap.size 5 i0 (.int .u8 0) 1 1 Tryz.underlying30 hi hz0 hz1 hz2 rfl (by decide) _ _ _ rfl hown2 ⟨bz, 0, none⟩ 1 1 [.int .u8 z.toNat] rfl rfl ?d1 ?d2 ?d3 ?d4 ?d5 ?_)
      case d1 =>
        intro q u hq
        match q, hq with
        | 0, hq => simp at hq; subst hq; simpa [Addr.add] using hz
      case d2 => intro u hu; simp at hu; subst hu; rfl
      case d3 => unfold maxLen; omega
      case d4 => omega
      case d5 => exact hlo2.size
      intro v5 w5 hown5 hgr5 _
      have T : w5.ownsRow w.heap.size 5 1 v5 (k + 1) (Lib.byteCells (List.zipWith xorB (l.take (k + 1)) (m.take (k + 1)))) ∧ Below w.heap.size w w5 := by
        rw [HCC.out]
        exact ⟨hown5, hlo2.grown hgr5 hlo2.size (fun k hk => (hown2.lt k hk).1)⟩
      clear hown5 hgr5
      go_wp2_with fail
      go_roundw
      case rel => exact ⟨k + 1, by omega, by go_num, T⟩
      case measure => simp [intOf]; omega
    · have hkn : k = n := by omega
      have Hkn := Lib.hid hkn
      clear hkn
      go_wp2_with fail
      go_ret
      refine ⟨_, rfl, ?_, hlo⟩
      have h := row8_own (B := w.heap.size) (v := _) (l := List.zipWith xorB (l.take k) (m.take k)) (by rw [Hlen.out]; exact hown)
      have e1 : l.take k = l := List.take_of_length_le (by rw [HN.out, Hkn.out]; exact Nat.le_refl _)
      have e2 : m.take k = m := List.take_of_length_le (by rw [HM.out, Hkn.out]; exact Nat.le_refl _)
      rw [e1, e2] at h; exact h
set_option maxRecDepth 100000 in
set_option maxHeartbeats 4000000 in
theorem fold_xor (v : Value) (l : List UInt8) (q : Nat) (hn : l.length = q + 1) (hl : q ≤ 1000000) (w : World) (h : Row8 w v l) :
    Calls Tryz.prog 69 #[v, .func (Fn.func 72) #[] #[]] w fun e w' => ∃ r, e = .returned r ∧ Row8 w' r [zx (fk xorB l q)] ∧ Below w.heap.size w w' := by
  obtain ⟨a, cap, rfl, -⟩ := id h.sh
  have hcap := h.cp _ _ _ rfl
  obtain ⟨bl, off, rfl, -, hc⟩ := row_nth h (k := 0) (by omega)
  have HC := Lib.hid hc
  have c0 := hc 0 (by omega)
  have HX : Hid (fk xorB l 0 = l[0]'(by omega)) := Lib.hid (getD_at (by omega))
  clear h hc
  rw [Nat.add_zero] at c0
  generalize l[0]'(by omega) = x0 at c0 HX
  rw [hn] at hcap
  have HN := Lib.hid hn
  rw [hn]
  clear hn
  have hq0 : (0 : Int) < ((q + 1 : Nat) : Int) := by omega
  have hq1 : (1 : Int) ≤ ((q + 1 : Nat) : Int) := by omega
  have hq2 : ((q + 1 : Nat) : Int) ≤ (cap : Int) := by omega
  have hsp : (cap = 1 ∧ q = 0) ∨ 2 ≤ cap := by omega
  rcases hsp with ⟨rfl, rfl⟩ | hp
  · skip
    go_enter Tryz.func69, Tryz.ntmps69
    go_wp2_with fail
    go_loopw [5, 14] (fun s5 s14 wr => ∃ k : Nat, k ≤ 0 ∧ s14 = .int .i64 k ∧ s5 = .int .u8 ((fk xorB l k).toNat : Int) ∧ w = wr) (fun _ s14 _ => 0 - (intOf s14).toNat)
    case atStart => exact ⟨0, Nat.zero_le _, rfl, by rw [HX.out], rfl⟩
    case round =>
      obtain ⟨k, hk, rfl, rfl, rfl⟩ := hrel
      obtain rfl : k = 0 := by omega
      · skip
        obtain ⟨c, hcc⟩ : ∃ c, fk xorB l 0 = c := ⟨_, rfl⟩
        rw [hcc]
        have HCC := Lib.hid hcc
        clear hcc
        by_cases e : c = 122
        · have t1 : ((c.toNat : Int) == 122) = true := by rw [e]; rfl
          have HZ := Lib.hid (show zx c = 120 from by unfold zx; rw [if_pos e])
          clear e
          go_wp2_with fail
          go_ret
          exact ⟨_, rfl, by rw [HCC.out, HZ.out]; exact row8_one (by go_simp), (Below.refl _ _).alloc (Nat.le_refl _) _⟩
        · have t1 : ((c.toNat : Int) == 122) = false := beq_eq_false_iff_ne.2 (fun h => e (UInt8.toNat_inj.1 (by simpa using Int.ofNat_inj.1 h)))
          have HZ := Lib.hid (show zx c = c from by unfold zx; rw [if_neg e])
          clear e
          go_wp2_with fail
          go_ret
          exact ⟨_, rfl, by rw [HCC.out, HZ.out]; exact row8_one (by go_simp), (Below.refl _ _).alloc (Nat.le_refl _) _⟩
  · have hp1 : ¬ cap = 1 := by omega
    have hp2 : ¬ ((cap : Int) = 1) := by omega
    have hp3 : ¬ ((cap : Int) - 1 = 0) := by omega
    have hp4 : ¬ cap - 1 = 0 := by omega
    have hp5 : ¬ cap ≤ 1 := by omega
    go_enter Tryz.func69, Tryz.ntmps69
    go_wp2_with fail
    go_loopw [5, 14] (fun s5 s14 wr => ∃ k : Nat, k ≤ q ∧ s14 = .int .i64 k ∧ s5 = .int .u8 ((fk xorB l k).toNat : Int) ∧ w = wr) (fun _ s14 _ => q - (intOf s14).toNat)
    case atStart => exact ⟨0, Nat.zero_le _, rfl, by rw [HX.out], rfl⟩
    case round =>
      obtain ⟨k, hk, rfl, rfl, rfl⟩ := hrel
      by_cases hlt : k < q
      · have hkl : k + 1 < l.length := by rw [HN.out]; omega
        have c1 := HC.out (k + 1) hkl
        have HK := Lib.hid (show fk xorB l (k + 1) = xorB (fk xorB l k) l[k + 1] from by rw [← getD_at hkl]; rfl)
        rw [show off + (k + 1) = off + 1 + k from by omega] at c1
        have hk0 : (0 : Int) ≤ (k : Int) := by omega
        have hk1 : (k : Int) < (q : Int) := by omega
        clear c0
        generalize l[k + 1] = x at c1 HK
        generalize fk xorB l k = c at HK ⊢
        go_wp2_with fail
        refine (xorB_ok c x _).mono ?_
        rintro e w1 ⟨rfl, rfl⟩
        go_wp2_with fail
        go_roundw
        case rel => exact ⟨k + 1, by omega, by go_num, by rw [HK.out], by first | rfl | trivial⟩
        case measure => simp [intOf]; omega
      · have hkn : k = q := by omega
        subst hkn
        obtain ⟨c, hcc⟩ : ∃ c, fk xorB l k = c := ⟨_, rfl⟩
        rw [hcc]
        have HCC := Lib.hid hcc
        clear hcc
        by_cases e : c = 122
        · have t1 : ((c.toNat : Int) == 122) = true := by rw [e]; rfl
          have HZ := Lib.hid (show zx c = 120 from by unfold zx; rw [if_pos e])
          clear e
          go_wp2_with fail
          go_ret
          exact ⟨_, rfl, by rw [HCC.out, HZ.out]; exact row8_one (by go_simp), (Below.refl _ _).alloc (Nat.le_refl _) _⟩
        · have t1 : ((c.toNat : Int) == 122) = false := beq_eq_false_iff_ne.2 (fun h => e (UInt8.toNat_inj.1 (by simpa using Int.ofNat_inj.1 h)))
          have HZ := Lib.hid (show zx c = c from by unfold zx; rw [if_neg e])
          clear e
          go_wp2_with fail
          go_ret
          exact ⟨_, rfl, by rw [HCC.out, HZ.out]; exact row8_one (by go_simp), (Below.refl _ _).alloc (Nat.le_refl _) _⟩
end Go.Proofs.YtodldcdfdjooaaaGreatDoor
namespace Go.Proofs.YtodldcdfdjooaaaGreatDoor
open Go Go.RowKit Go.Sort
set_option linter.unusedVariables false
/-- a state out of the two bits of its words -/
def stb (v x : Bool) : UInt8 := if x then (if v then 120 else 122) else (if v then 49 else 48)
theorem st_b (a : Vx) (i : Nat) : st a i = stb (a.v.getLsbD i) (a.x.getLsbD i) := rfl
theorem zipB {n : Nat} (f : UInt8 → UInt8 → UInt8) (a b c : Vx) (h : ∀ i, i < n → f (st a i) (st b i) = st c i) : List.zipWith f (vl a n) (vl b n) = vl c n := by
  unfold vl
  rw [zipWith_map_range]
  exact List.map_congr_left fun i hi => h i (List.mem_range.1 hi)
theorem and_vl {n : Nat} (a b : Vx) (hn : n ≤ 64) : List.zipWith andB (vl a n) (vl b n) = vl (vand n a b) n := zipB andB a b _ fun i hi => by
  rw [st_b, st_b, st_b, (vand_bit hn a b hi).1, (vand_bit hn a b hi).2]
  cases a.v.getLsbD i <;> cases a.x.getLsbD i <;> cases b.v.getLsbD i <;> cases b.x.getLsbD i <;> decide
theorem or_vl {n : Nat} (a b : Vx) (hn : n ≤ 64) : List.zipWith orB (vl a n) (vl b n) = vl (vor n a b) n := zipB orB a b _ fun i hi => by
  rw [st_b, st_b, st_b, (vor_bit hn a b hi).1, (vor_bit hn a b hi).2]
  cases a.v.getLsbD i <;> cases a.x.getLsbD i <;> cases b.v.getLsbD i <;> cases b.x.getLsbD i <;> decide
theorem xor_vl {n : Nat} (a b : Vx) (hn : n ≤ 64) : List.zipWith xorB (vl a n) (vl b n) = vl (vxor n a b) n := zipB xorB a b _ fun i hi => by
  rw [st_b, st_b, st_b, (vxor_bit hn a b hi).1, (vxor_bit hn a b hi).2]
  cases a.v.getLsbD i <;> cases a.x.getLsbD i <;> cases b.v.getLsbD i <;> cases b.x.getLsbD i <;> decide
theorem not_vl {n : Nat} (a : Vx) (hn : n ≤ 64) : (vl a n).map notB = vl (vnot n a) n := by
  unfold vl
  rw [List.map_map]
  refine List.map_congr_left fun i hi => ?_
  have hi' := List.mem_range.1 hi
  show notB (st a i) = st (vnot n a) i
  rw [st_b, st_b, (vnot_bit hn a hi').1, (vnot_bit hn a hi').2]
  cases a.v.getLsbD i <;> cases a.x.getLsbD i <;> decide
/-- one of the four states -/
def Sx (c : UInt8) : Prop := c = 48 ∨ c = 49 ∨ c = 120 ∨ c = 122
theorem st_sx (a : Vx) (i : Nat) : Sx (st a i) := by
  rw [st_b]; unfold Sx stb; cases a.v.getLsbD i <;> cases a.x.getLsbD i <;> simp
/-- the list that begins with a state: what is known of its first k + 1 states -/
def orC (one zero : Bool) : UInt8 := if one then 49 else if zero then 48 else 120
theorem fk_or (a : Vx) (n : Nat) : ∀ k, k < n → zx (fk orB (vl a n) k) = orC ((List.range (k + 1)).any fun i => st a i == 49) ((List.range (k + 1)).all fun i => st a i == 48)
  | 0, h => by
    show zx ((vl a n).getD 0 0) = _
    rw [vl_get a n 0 h]
    rcases st_sx a 0 with e | e | e | e <;> simp [List.range_succ, e, zx, orC]
  | k + 1, h => by
    have ih := fk_or a n k (by omega)
    show zx (orB (fk orB (vl a n) k) ((vl a n).getD (k + 1) 0)) = _
    rw [vl_get a n (k + 1) h, List.range_succ, List.any_append, List.all_append]
    have ez : ∀ c y : UInt8, orB (zx c) y = orB c y := fun c y => by
      unfold zx; split
      · rename_i e; subst e; rfl
      · rfl
    rw [← ez, ih]
    have e1 : ([k + 1].any fun i => st a i == 49) = (st a (k + 1) == 49) := by simp
    have e2 : ([k + 1].all fun i => st a i == 48) = (st a (k + 1) == 48) := by simp
    rw [e1, e2]
    generalize (List.range (k + 1)).any _ = A
    generalize (List.range (k + 1)).all _ = Z
    rcases st_sx a (k + 1) with e | e | e | e <;> rw [e] <;> cases A <;> cases Z <;> decide
theorem truth_fk {n : Nat} (a : Vx) (h1 : 1 ≤ n) : zx (fk orB (vl a n) (n - 1)) = oneB (truthL (vl a n)) := by
  rw [fk_or a n (n - 1) (by omega), show n - 1 + 1 = n by omega]
  have e1 : (vl a n).contains 49 = (List.range n).any fun i => st a i == 49 := by
    unfold vl
    rw [List.contains_eq_any_beq, List.any_map]
    congr 1; funext i
    show ((49 : UInt8) == st a i) = _
    exact Bool.eq_iff_iff.2 ⟨fun h => beq_iff_eq.2 (beq_iff_eq.1 h).symm, fun h => beq_iff_eq.2 (beq_iff_eq.1 h).symm⟩
  have e2 : ((vl a n).all (· == 48)) = (List.range n).all fun i => st a i == 48 := by
    unfold vl; rw [List.all_map]; rfl
  unfold truthL
  rw [e1, e2]
  unfold orC
  cases (List.range n).any _ <;> cases (List.range n).all _ <;> rfl
theorem truthL_in (l : List UInt8) : truthL l = 116 ∨ truthL l = 102 ∨ truthL l = 117 := by
  unfold truthL; split
  · exact .inl rfl
  · split
    · exact .inr (.inl rfl)
    · exact .inr (.inr rfl)
theorem redor_in (a : Vx) : redor a = tr true ∨ redor a = tr false ∨ redor a = fl 1 3 := by
  unfold redor; split
  · exact .inr (.inl rfl)
  · split
    · exact .inl rfl
    · exact .inr (.inr rfl)
theorem red_vl {n : Nat} {a : Vx} (ha : a.ok n) : Bl [oneB (truthL (vl a n))] = ⟨1, (redor a).v, (redor a).x⟩ := by
  rw [truth_vl ha]
  unfold redor
  by_cases h0 : tru a = 0
  · rw [if_pos h0, if_pos h0]; exact Bl_f
  · by_cases h1 : tru a = 1
    · rw [if_neg h0, if_pos h1, if_neg h0, if_pos h1]; exact Bl_t
    · rw [if_neg h0, if_neg h1, if_neg h0, if_neg h1]; exact Bl_x
theorem vnot_tr (t : Bool) : vnot 1 (tr t) = tr (!t) := by cases t <;> exact vx_same (by decide +kernel) (by decide +kernel)
theorem vnot_x : vnot 1 (fl 1 3) = fl 1 3 := vx_same (by decide +kernel) (by decide +kernel)
theorem nred_vl {n : Nat} {a : Vx} (ha : a.ok n) : Bl [oneB (oppN (truthL (vl a n)))] = ⟨1, (vnot 1 (redor a)).v, (vnot 1 (redor a)).x⟩ := by
  rcases one_inj (redor_in a) (truthL_in _) (red_vl ha) with ⟨e1, e2⟩ | ⟨e1, e2⟩ | ⟨e1, e2⟩ <;> rw [e1, e2]
  · rw [vnot_tr]; exact Bl_f
  · rw [vnot_tr]; exact Bl_t
  · rw [vnot_x]; exact Bl_x
/-- And is Or of the inverses, inverted -/
theorem fk_and {n : Nat} (a : Vx) (hn : n ≤ 64) : ∀ k, k < n → zx (fk andB (vl a n) k) = notB (zx (fk orB (vl (vnot n a) n) k))
  | 0, h => by
    show zx ((vl a n).getD 0 0) = notB (zx ((vl (vnot n a) n).getD 0 0))
    rw [← not_vl a hn, vl_get a n 0 h, getD_at (by rw [List.length_map, vl_len]; exact h), List.getElem_map, ← getD_at (by rw [vl_len]; exact h), vl_get a n 0 h]
    rcases st_sx a 0 with e | e | e | e <;> rw [e] <;> decide
  | k + 1, h => by
    have ih := fk_and a hn k (by omega)
    show zx (andB (fk andB (vl a n) k) ((vl a n).getD (k + 1) 0)) = notB (zx (orB (fk orB (vl (vnot n a) n) k) ((vl (vnot n a) n).getD (k + 1) 0)))
    have ez : ∀ c y : UInt8, orB (zx c) y = orB c y := fun c y => by
      unfold zx; split
      · rename_i e; subst e; rfl
      · rfl
    have ea : ∀ c y : UInt8, andB (zx c) y = andB c y := fun c y => by
      unfold zx; split
      · rename_i e; subst e; unfold andB; simp
      · rfl
    rw [← ea, ← ez, ih]
    have e9 : (vl (vnot n a) n).getD (k + 1) 0 = notB (st a (k + 1)) := by
      rw [← not_vl a hn, getD_at (by rw [List.length_map, vl_len]; exact h), List.getElem_map, ← getD_at (by rw [vl_len]; exact h), vl_get a n _ h]
    rw [e9, vl_get a n _ h, fk_or (vnot n a) n k (by omega)]
    generalize (List.range (k + 1)).any _ = A
    generalize (List.range (k + 1)).all _ = Z
    rcases st_sx a (k + 1) with e | e | e | e <;> rw [e] <;> cases A <;> cases Z <;> decide
theorem not_one {c : Nat} (hc : c = 116 ∨ c = 102 ∨ c = 117) : notB (oneB c) = oneB (oppN c) := by rcases hc with rfl | rfl | rfl <;> decide
theorem redand_vl {n : Nat} {a : Vx} (ha : a.ok n) : Bl [zx (fk andB (vl a n) (n - 1))] = ⟨1, (vnot 1 (redor (vnot n a))).v, (vnot 1 (redor (vnot n a))).x⟩ := by
  have h1 := ha.lo
  rw [fk_and a ha.hi (n - 1) (by omega), truth_fk _ ha.lo, not_one (truthL_in _)]
  exact nred_vl (vnot_ok ha)
theorem redor_vl {n : Nat} {a : Vx} (ha : a.ok n) : Bl [zx (fk orB (vl a n) (n - 1))] = ⟨1, (redor a).v, (redor a).x⟩ := by
  rw [truth_fk _ ha.lo]; exact red_vl ha
/-- the parity -/
theorem fk_xor (a : Vx) (n : Nat) : ∀ k, k < n → zx (fk xorB (vl a n) k) = if ((List.range (k + 1)).all fun i => !a.x.getLsbD i) then (if par a.v (k + 1) then 49 else 48) else 120
  | 0, h => by
    show zx ((vl a n).getD 0 0) = _
    rw [vl_get a n 0 h, st_b]
    simp only [List.range_succ, List.range_zero, List.nil_append, List.all_cons, List.all_nil, Bool.and_true, par, Bool.false_xor]
    cases a.v.getLsbD 0 <;> cases a.x.getLsbD 0 <;> decide
  | k + 1, h => by
    have ih := fk_xor a n k (by omega)
    show zx (xorB (fk xorB (vl a n) k) ((vl a n).getD (k + 1) 0)) = _
    have ez : ∀ c y : UInt8, xorB (zx c) y = xorB c y := fun c y => by
      unfold zx; split
      · rename_i e; subst e; unfold xorB orB andB notB; simp
      · rfl
    rw [← ez, ih, vl_get a n (k + 1) h, show List.range (k + 1 + 1) = List.range (k + 1) ++ [k + 1] from List.range_succ, List.all_append]
    have e2 : ([k + 1].all fun i => !a.x.getLsbD i) = !a.x.getLsbD (k + 1) := by simp
    have ep : par a.v (k + 1 + 1) = (par a.v (k + 1) ^^ a.v.getLsbD (k + 1)) := rfl
    rw [e2, ep, st_b]
    generalize (List.range (k + 1)).all _ = Z
    generalize par a.v (k + 1) = p
    cases a.v.getLsbD (k + 1) <;> cases a.x.getLsbD (k + 1) <;> cases Z <;> cases p <;> decide
theorem redxor_vl {n : Nat} {a : Vx} (ha : a.ok n) : Bl [zx (fk xorB (vl a n) (n - 1))] = ⟨1, (vredxor a).v, (vredxor a).x⟩ := by
  have h1 := ha.lo
  have h2 := ha.hi
  rw [fk_xor a n (n - 1) (by omega), show n - 1 + 1 = n by omega]
  have e : ((List.range n).all fun i => !a.x.getLsbD i) = (a.x == 0#64) := (zero_all _ n h2 (fun i hi => ha.subx i hi)).symm
  have p : par a.v 64 = par a.v n := by
    have := par_hi ha.subv (64 - n)
    rw [show n + (64 - n) = 64 by omega] at this; exact this
  rw [e]
  unfold vredxor
  by_cases hx : a.x = 0#64
  · rw [if_pos hx, beq_iff_eq.2 hx, if_pos rfl, p]
    cases par a.v n
    · exact Bl_f
    · exact Bl_t
  · rw [if_neg hx, beq_eq_false_iff_ne.2 hx]; exact Bl_x
/-- two truth values -/
theorem two_t {c d : Nat} {p q : Vx} (hc : c = 116 ∧ p = tr true ∨ c = 102 ∧ p = tr false ∨ c = 117 ∧ p = fl 1 3) (hd : d = 116 ∧ q = tr true ∨ d = 102 ∧ q = tr false ∨ d = 117 ∧ q = fl 1 3) :
    Bl [zx (fk andB [oneB c, oneB d] 1)] = ⟨1, (vand 1 p q).v, (vand 1 p q).x⟩ ∧ Bl [zx (fk orB [oneB c, oneB d] 1)] = ⟨1, (vor 1 p q).v, (vor 1 p q).x⟩ := by
  have a1 : vand 1 (tr true) (tr true) = tr true := vx_same (by decide +kernel) (by decide +kernel)
  have a2 : vand 1 (tr true) (tr false) = tr false := vx_same (by decide +kernel) (by decide +kernel)
  have a3 : vand 1 (tr true) (fl 1 3) = fl 1 3 := vx_same (by decide +kernel) (by decide +kernel)
  have a4 : vand 1 (tr false) (tr true) = tr false := vx_same (by decide +kernel) (by decide +kernel)
  have a5 : vand 1 (tr false) (tr false) = tr false := vx_same (by decide +kernel) (by decide +kernel)
  have a6 : vand 1 (tr false) (fl 1 3) = tr false := vx_same (by decide +kernel) (by decide +kernel)
  have a7 : vand 1 (fl 1 3) (tr true) = fl 1 3 := vx_same (by decide +kernel) (by decide +kernel)
  have a8 : vand 1 (fl 1 3) (tr false) = tr false := vx_same (by decide +kernel) (by decide +kernel)
  have a9 : vand 1 (fl 1 3) (fl 1 3) = fl 1 3 := vx_same (by decide +kernel) (by decide +kernel)
  have o1 : vor 1 (tr true) (tr true) = tr true := vx_same (by decide +kernel) (by decide +kernel)
  have o2 : vor 1 (tr true) (tr false) = tr true := vx_same (by decide +kernel) (by decide +kernel)
  have o3 : vor 1 (tr true) (fl 1 3) = tr true := vx_same (by decide +kernel) (by decide +kernel)
  have o4 : vor 1 (tr false) (tr true) = tr true := vx_same (by decide +kernel) (by decide +kernel)
  have o5 : vor 1 (tr false) (tr false) = tr false := vx_same (by decide +kernel) (by decide +kernel)
  have o6 : vor 1 (tr false) (fl 1 3) = fl 1 3 := vx_same (by decide +kernel) (by decide +kernel)
  have o7 : vor 1 (fl 1 3) (tr true) = tr true := vx_same (by decide +kernel) (by decide +kernel)
  have o8 : vor 1 (fl 1 3) (tr false) = fl 1 3 := vx_same (by decide +kernel) (by decide +kernel)
  have o9 : vor 1 (fl 1 3) (fl 1 3) = fl 1 3 := vx_same (by decide +kernel) (by decide +kernel)
  rcases hc with ⟨rfl, rfl⟩ | ⟨rfl, rfl⟩ | ⟨rfl, rfl⟩ <;> rcases hd with ⟨rfl, rfl⟩ | ⟨rfl, rfl⟩ | ⟨rfl, rfl⟩
  · rw [a1, o1]; exact ⟨Bl_t, Bl_t⟩
  · rw [a2, o2]; exact ⟨Bl_f, Bl_t⟩
  · rw [a3, o3]; exact ⟨Bl_x, Bl_t⟩
  · rw [a4, o4]; exact ⟨Bl_f, Bl_t⟩
  · rw [a5, o5]; exact ⟨Bl_f, Bl_f⟩
  · rw [a6, o6]; exact ⟨Bl_f, Bl_x⟩
  · rw [a7, o7]; exact ⟨Bl_x, Bl_t⟩
  · rw [a8, o8]; exact ⟨Bl_f, Bl_x⟩
  · rw [a9, o9]; exact ⟨Bl_x, Bl_x⟩
theorem truth_two {n : Nat} {a : Vx} (ha : a.ok n) : truthL (vl a n) = 116 ∧ redor a = tr true ∨ truthL (vl a n) = 102 ∧ redor a = tr false ∨ truthL (vl a n) = 117 ∧ redor a = fl 1 3 := one_inj (redor_in a) (truthL_in _) (red_vl ha)
end Go.Proofs.YtodldcdfdjooaaaGreatDoor
namespace Go.Proofs.YtodldcdfdjooaaaGreatDoor
open Go Go.RowKit Go.Sort
set_option linter.unusedVariables false
set_option maxRecDepth 100000 in
set_option maxHeartbeats 1000000 in
theorem binary_And (a b P : Rb) (s : Bool) (c : ∀ w, Calls Tryz.prog 48 #[.agg #[.int .i64 a.W, .int .u64 (U a.v), .int .u64 (U a.x)], .agg #[.int .i64 b.W, .int .u64 (U b.v), .int .u64 (U b.x)]] w fun e w' => e = .returned (.agg #[.int .i64 P.W, .int .u64 (U P.v), .int .u64 (U P.x)]) ∧ Below w.heap.size w w') (w : World) : Calls Tryz.prog 42 #[.int .i64 13, .agg #[.int .i64 a.W, .int .u64 (U a.v), .int .u64 (U a.x)], .agg #[.int .i64 b.W, .int .u64 (U b.v), .int .u64 (U b.x)], .bool s] w fun e w' => e = .returned (.agg #[.int .i64 P.W, .int .u64 (U P.v), .int .u64 (U P.x)]) ∧ Below w.heap.size w w' := by
  obtain ⟨aW, av, ax⟩ := a
  obtain ⟨bW, bv, bx⟩ := b
  have vc := Lib.hid c
  clear c
  show Calls Tryz.prog 42 #[.int .i64 13, .agg #[.int .i64 aW, .int .u64 (U av), .int .u64 (U ax)], .agg #[.int .i64 bW, .int .u64 (U bv), .int .u64 (U bx)], .bool s] w _
  go_enter Tryz.func42, Tryz.ntmps42
  go_wp2_with fail
  have C := tb_new (w := w) ⟨aW, av, ax⟩ ⟨bW, bv, bx⟩
  generalize (((w.alloc (Obj.cells #[Value.int IntKind.i64 aW, Value.int IntKind.u64 (U av), Value.int IntKind.u64 (U ax)] 24)).alloc (Obj.cells #[Value.int IntKind.i64 bW, Value.int IntKind.u64 (U bv), Value.int IntKind.u64 (U bx)] 24)).alloc (Obj.cells #[Value.int IntKind.i64 0, Value.int IntKind.u64 0, Value.int IntKind.u64 0] 24)) = W at C ⊢
  obtain ⟨⟨a0, a1, a2, af⟩, ⟨b0, b1, b2, bf⟩, ⟨p0, p1, p2, pf⟩, lo⟩ := id C
  go_wp2_with fail
  refine (vc.out _).mono ?_
  rintro e W1 ⟨rfl, hb⟩
  replace C := C.below hb
  clear a0 a1 a2 af b0 b1 b2 bf p0 p1 p2 pf lo hb
  obtain ⟨⟨a0, a1, a2, af⟩, ⟨b0, b1, b2, bf⟩, ⟨p0, p1, p2, pf⟩, lo⟩ := id C
  go_wp2_with fail
  replace C := C.put P.W (U P.v) (U P.x)
  clear a0 a1 a2 af b0 b1 b2 bf p0 p1 p2 pf lo
  obtain ⟨⟨a0, a1, a2, af⟩, ⟨b0, b1, b2, bf⟩, ⟨p0, p1, p2, pf⟩, lo⟩ := C
  exact bodyPost_ret (v := .agg #[.int .i64 P.W, .int .u64 (U P.v), .int .u64 (U P.x)]) (by simp [results, Tryz.results42, go_sem, p0, p1, p2]) rfl ⟨rfl, lo⟩
set_option maxRecDepth 100000 in
set_option maxHeartbeats 1000000 in
theorem binary_Or (a b P : Rb) (s : Bool) (c : ∀ w, Calls Tryz.prog 49 #[.agg #[.int .i64 a.W, .int .u64 (U a.v), .int .u64 (U a.x)], .agg #[.int .i64 b.W, .int .u64 (U b.v), .int .u64 (U b.x)]] w fun e w' => e = .returned (.agg #[.int .i64 P.W, .int .u64 (U P.v), .int .u64 (U P.x)]) ∧ Below w.heap.size w w') (w : World) : Calls Tryz.prog 42 #[.int .i64 14, .agg #[.int .i64 a.W, .int .u64 (U a.v), .int .u64 (U a.x)], .agg #[.int .i64 b.W, .int .u64 (U b.v), .int .u64 (U b.x)], .bool s] w fun e w' => e = .returned (.agg #[.int .i64 P.W, .int .u64 (U P.v), .int .u64 (U P.x)]) ∧ Below w.heap.size w w' := by
  obtain ⟨aW, av, ax⟩ := a
  obtain ⟨bW, bv, bx⟩ := b
  have vc := Lib.hid c
  clear c
  show Calls Tryz.prog 42 #[.int .i64 14, .agg #[.int .i64 aW, .int .u64 (U av), .int .u64 (U ax)], .agg #[.int .i64 bW, .int .u64 (U bv), .int .u64 (U bx)], .bool s] w _
  go_enter Tryz.func42, Tryz.ntmps42
  go_wp2_with fail
  have C := tb_new (w := w) ⟨aW, av, ax⟩ ⟨bW, bv, bx⟩
  generalize (((w.alloc (Obj.cells #[Value.int IntKind.i64 aW, Value.int IntKind.u64 (U av), Value.int IntKind.u64 (U ax)] 24)).alloc (Obj.cells #[Value.int IntKind.i64 bW, Value.int IntKind.u64 (U bv), Value.int IntKind.u64 (U bx)] 24)).alloc (Obj.cells #[Value.int IntKind.i64 0, Value.int IntKind.u64 0, Value.int IntKind.u64 0] 24)) = W at C ⊢
  obtain ⟨⟨a0, a1, a2, af⟩, ⟨b0, b1, b2, bf⟩, ⟨p0, p1, p2, pf⟩, lo⟩ := id C
  go_wp2_with fail
  refine (vc.out _).mono ?_
  rintro e W1 ⟨rfl, hb⟩
  replace C := C.below hb
  clear a0 a1 a2 af b0 b1 b2 bf p0 p1 p2 pf lo hb
  obtain ⟨⟨a0, a1, a2, af⟩, ⟨b0, b1, b2, bf⟩, ⟨p0, p1, p2, pf⟩, lo⟩ := id C
  go_wp2_with fail
  replace C := C.put P.W (U P.v) (U P.x)
  clear a0 a1 a2 af b0 b1 b2 bf p0 p1 p2 pf lo
  obtain ⟨⟨a0, a1, a2, af⟩, ⟨b0, b1, b2, bf⟩, ⟨p0, p1, p2, pf⟩, lo⟩ := C
  exact bodyPost_ret (v := .agg #[.int .i64 P.W, .int .u64 (U P.v), .int .u64 (U P.x)]) (by simp [results, Tryz.results42, go_sem, p0, p1, p2]) rfl ⟨rfl, lo⟩
set_option maxRecDepth 100000 in
set_option maxHeartbeats 1000000 in
theorem binary_Xor (a b P : Rb) (s : Bool) (c : ∀ w, Calls Tryz.prog 50 #[.agg #[.int .i64 a.W, .int .u64 (U a.v), .int .u64 (U a.x)], .agg #[.int .i64 b.W, .int .u64 (U b.v), .int .u64 (U b.x)]] w fun e w' => e = .returned (.agg #[.int .i64 P.W, .int .u64 (U P.v), .int .u64 (U P.x)]) ∧ Below w.heap.size w w') (w : World) : Calls Tryz.prog 42 #[.int .i64 15, .agg #[.int .i64 a.W, .int .u64 (U a.v), .int .u64 (U a.x)], .agg #[.int .i64 b.W, .int .u64 (U b.v), .int .u64 (U b.x)], .bool s] w fun e w' => e = .returned (.agg #[.int .i64 P.W, .int .u64 (U P.v), .int .u64 (U P.x)]) ∧ Below w.heap.size w w' := by
  obtain ⟨aW, av, ax⟩ := a
  obtain ⟨bW, bv, bx⟩ := b
  have vc := Lib.hid c
  clear c
  show Calls Tryz.prog 42 #[.int .i64 15, .agg #[.int .i64 aW, .int .u64 (U av), .int .u64 (U ax)], .agg #[.int .i64 bW, .int .u64 (U bv), .int .u64 (U bx)], .bool s] w _
  go_enter Tryz.func42, Tryz.ntmps42
  go_wp2_with fail
  have C := tb_new (w := w) ⟨aW, av, ax⟩ ⟨bW, bv, bx⟩
  generalize (((w.alloc (Obj.cells #[Value.int IntKind.i64 aW, Value.int IntKind.u64 (U av), Value.int IntKind.u64 (U ax)] 24)).alloc (Obj.cells #[Value.int IntKind.i64 bW, Value.int IntKind.u64 (U bv), Value.int IntKind.u64 (U bx)] 24)).alloc (Obj.cells #[Value.int IntKind.i64 0, Value.int IntKind.u64 0, Value.int IntKind.u64 0] 24)) = W at C ⊢
  obtain ⟨⟨a0, a1, a2, af⟩, ⟨b0, b1, b2, bf⟩, ⟨p0, p1, p2, pf⟩, lo⟩ := id C
  go_wp2_with fail
  refine (vc.out _).mono ?_
  rintro e W1 ⟨rfl, hb⟩
  replace C := C.below hb
  clear a0 a1 a2 af b0 b1 b2 bf p0 p1 p2 pf lo hb
  obtain ⟨⟨a0, a1, a2, af⟩, ⟨b0, b1, b2, bf⟩, ⟨p0, p1, p2, pf⟩, lo⟩ := id C
  go_wp2_with fail
  replace C := C.put P.W (U P.v) (U P.x)
  clear a0 a1 a2 af b0 b1 b2 bf p0 p1 p2 pf lo
  obtain ⟨⟨a0, a1, a2, af⟩, ⟨b0, b1, b2, bf⟩, ⟨p0, p1, p2, pf⟩, lo⟩ := C
  exact bodyPost_ret (v := .agg #[.int .i64 P.W, .int .u64 (U P.v), .int .u64 (U P.x)]) (by simp [results, Tryz.results42, go_sem, p0, p1, p2]) rfl ⟨rfl, lo⟩
set_option maxRecDepth 100000 in
set_option maxHeartbeats 1000000 in
theorem binary_LAnd (a b P : Rb) (s : Bool) (c : ∀ w, Calls Tryz.prog 51 #[.agg #[.int .i64 a.W, .int .u64 (U a.v), .int .u64 (U a.x)], .agg #[.int .i64 b.W, .int .u64 (U b.v), .int .u64 (U b.x)]] w fun e w' => e = .returned (.agg #[.int .i64 P.W, .int .u64 (U P.v), .int .u64 (U P.x)]) ∧ Below w.heap.size w w') (w : World) : Calls Tryz.prog 42 #[.int .i64 11, .agg #[.int .i64 a.W, .int .u64 (U a.v), .int .u64 (U a.x)], .agg #[.int .i64 b.W, .int .u64 (U b.v), .int .u64 (U b.x)], .bool s] w fun e w' => e = .returned (.agg #[.int .i64 P.W, .int .u64 (U P.v), .int .u64 (U P.x)]) ∧ Below w.heap.size w w' := by
  obtain ⟨aW, av, ax⟩ := a
  obtain ⟨bW, bv, bx⟩ := b
  have vc := Lib.hid c
  clear c
  show Calls Tryz.prog 42 #[.int .i64 11, .agg #[.int .i64 aW, .int .u64 (U av), .int .u64 (U ax)], .agg #[.int .i64 bW, .int .u64 (U bv), .int .u64 (U bx)], .bool s] w _
  go_enter Tryz.func42, Tryz.ntmps42
  go_wp2_with fail
  have C := tb_new (w := w) ⟨aW, av, ax⟩ ⟨bW, bv, bx⟩
  generalize (((w.alloc (Obj.cells #[Value.int IntKind.i64 aW, Value.int IntKind.u64 (U av), Value.int IntKind.u64 (U ax)] 24)).alloc (Obj.cells #[Value.int IntKind.i64 bW, Value.int IntKind.u64 (U bv), Value.int IntKind.u64 (U bx)] 24)).alloc (Obj.cells #[Value.int IntKind.i64 0, Value.int IntKind.u64 0, Value.int IntKind.u64 0] 24)) = W at C ⊢
  obtain ⟨⟨a0, a1, a2, af⟩, ⟨b0, b1, b2, bf⟩, ⟨p0, p1, p2, pf⟩, lo⟩ := id C
  go_wp2_with fail
  refine (vc.out _).mono ?_
  rintro e W1 ⟨rfl, hb⟩
  replace C := C.below hb
  clear a0 a1 a2 af b0 b1 b2 bf p0 p1 p2 pf lo hb
  obtain ⟨⟨a0, a1, a2, af⟩, ⟨b0, b1, b2, bf⟩, ⟨p0, p1, p2, pf⟩, lo⟩ := id C
  go_wp2_with fail
  replace C := C.put P.W (U P.v) (U P.x)
  clear a0 a1 a2 af b0 b1 b2 bf p0 p1 p2 pf lo
  obtain ⟨⟨a0, a1, a2, af⟩, ⟨b0, b1, b2, bf⟩, ⟨p0, p1, p2, pf⟩, lo⟩ := C
  exact bodyPost_ret (v := .agg #[.int .i64 P.W, .int .u64 (U P.v), .int .u64 (U P.x)]) (by simp [results, Tryz.results42, go_sem, p0, p1, p2]) rfl ⟨rfl, lo⟩
set_option maxRecDepth 100000 in
set_option maxHeartbeats 1000000 in
theorem binary_LOr (a b P : Rb) (s : Bool) (c : ∀ w, Calls Tryz.prog 52 #[.agg #[.int .i64 a.W, .int .u64 (U a.v), .int .u64 (U a.x)], .agg #[.int .i64 b.W, .int .u64 (U b.v), .int .u64 (U b.x)]] w fun e w' => e = .returned (.agg #[.int .i64 P.W, .int .u64 (U P.v), .int .u64 (U P.x)]) ∧ Below w.heap.size w w') (w : World) : Calls Tryz.prog 42 #[.int .i64 12, .agg #[.int .i64 a.W, .int .u64 (U a.v), .int .u64 (U a.x)], .agg #[.int .i64 b.W, .int .u64 (U b.v), .int .u64 (U b.x)], .bool s] w fun e w' => e = .returned (.agg #[.int .i64 P.W, .int .u64 (U P.v), .int .u64 (U P.x)]) ∧ Below w.heap.size w w' := by
  obtain ⟨aW, av, ax⟩ := a
  obtain ⟨bW, bv, bx⟩ := b
  have vc := Lib.hid c
  clear c
  show Calls Tryz.prog 42 #[.int .i64 12, .agg #[.int .i64 aW, .int .u64 (U av), .int .u64 (U ax)], .agg #[.int .i64 bW, .int .u64 (U bv), .int .u64 (U bx)], .bool s] w _
  go_enter Tryz.func42, Tryz.ntmps42
  go_wp2_with fail
  have C := tb_new (w := w) ⟨aW, av, ax⟩ ⟨bW, bv, bx⟩
  generalize (((w.alloc (Obj.cells #[Value.int IntKind.i64 aW, Value.int IntKind.u64 (U av), Value.int IntKind.u64 (U ax)] 24)).alloc (Obj.cells #[Value.int IntKind.i64 bW, Value.int IntKind.u64 (U bv), Value.int IntKind.u64 (U bx)] 24)).alloc (Obj.cells #[Value.int IntKind.i64 0, Value.int IntKind.u64 0, Value.int IntKind.u64 0] 24)) = W at C ⊢
  obtain ⟨⟨a0, a1, a2, af⟩, ⟨b0, b1, b2, bf⟩, ⟨p0, p1, p2, pf⟩, lo⟩ := id C
  go_wp2_with fail
  refine (vc.out _).mono ?_
  rintro e W1 ⟨rfl, hb⟩
  replace C := C.below hb
  clear a0 a1 a2 af b0 b1 b2 bf p0 p1 p2 pf lo hb
  obtain ⟨⟨a0, a1, a2, af⟩, ⟨b0, b1, b2, bf⟩, ⟨p0, p1, p2, pf⟩, lo⟩ := id C
  go_wp2_with fail
  replace C := C.put P.W (U P.v) (U P.x)
  clear a0 a1 a2 af b0 b1 b2 bf p0 p1 p2 pf lo
  obtain ⟨⟨a0, a1, a2, af⟩, ⟨b0, b1, b2, bf⟩, ⟨p0, p1, p2, pf⟩, lo⟩ := C
  exact bodyPost_ret (v := .agg #[.int .i64 P.W, .int .u64 (U P.v), .int .u64 (U P.x)]) (by simp [results, Tryz.results42, go_sem, p0, p1, p2]) rfl ⟨rfl, lo⟩
set_option maxRecDepth 100000 in
set_option maxHeartbeats 1000000 in
theorem Binary_And (v u : Value) (s : Bool) (Q : Value → World → Prop) (w : World) (c : Calls Tryz.prog 85 #[v, u, .func (Fn.func 70) #[] #[]] w fun e w' => ∃ r, e = .returned r ∧ Q r w' ∧ Below w.heap.size w w') :
    Calls Tryz.prog 41 #[.int .i64 13, v, u, .bool s] w fun e w' => ∃ r, e = .returned r ∧ Q r w' ∧ Below w.heap.size w w' := by
  have C := Lib.hid c
  clear c
  go_enter Tryz.func41, Tryz.ntmps41
  go_wp2_with fail
  refine C.out.mono ?_
  rintro e w1 ⟨r, rfl, hq, hb⟩
  go_wp2_with fail
  go_ret
  exact ⟨r, rfl, hq, hb⟩
set_option maxRecDepth 100000 in
set_option maxHeartbeats 1000000 in
theorem Binary_Or (v u : Value) (s : Bool) (Q : Value → World → Prop) (w : World) (c : Calls Tryz.prog 85 #[v, u, .func (Fn.func 71) #[] #[]] w fun e w' => ∃ r, e = .returned r ∧ Q r w' ∧ Below w.heap.size w w') :
    Calls Tryz.prog 41 #[.int .i64 14, v, u, .bool s] w fun e w' => ∃ r, e = .returned r ∧ Q r w' ∧ Below w.heap.size w w' := by
  have C := Lib.hid c
  clear c
  go_enter Tryz.func41, Tryz.ntmps41
  go_wp2_with fail
  refine C.out.mono ?_
  rintro e w1 ⟨r, rfl, hq, hb⟩
  go_wp2_with fail
  go_ret
  exact ⟨r, rfl, hq, hb⟩
set_option maxRecDepth 100000 in
set_option maxHeartbeats 1000000 in
theorem Binary_Xor (v u : Value) (s : Bool) (Q : Value → World → Prop) (w : World) (c : Calls Tryz.prog 85 #[v, u, .func (Fn.func 72) #[] #[]] w fun e w' => ∃ r, e = .returned r ∧ Q r w' ∧ Below w.heap.size w w') :
    Calls Tryz.prog 41 #[.int .i64 15, v, u, .bool s] w fun e w' => ∃ r, e = .returned r ∧ Q r w' ∧ Below w.heap.size w w' := by
  have C := Lib.hid c
  clear c
  go_enter Tryz.func41, Tryz.ntmps41
  go_wp2_with fail
  refine C.out.mono ?_
  rintro e w1 ⟨r, rfl, hq, hb⟩
  go_wp2_with fail
  go_ret
  exact ⟨r, rfl, hq, hb⟩
set_option maxRecDepth 100000 in
set_option maxHeartbeats 1000000 in
theorem unary_Not (v : Value) (Q : Value → World → Prop) (w : World) (c : Calls Tryz.prog 66 #[v] w fun e w' => ∃ r, e = .returned r ∧ Q r w' ∧ Below w.heap.size w w') :
    Calls Tryz.prog 36 #[.int .i64 5, v] w fun e w' => ∃ r, e = .returned r ∧ Q r w' ∧ Below w.heap.size w w' := by
  have C := Lib.hid c
  clear c
  go_enter Tryz.func36, Tryz.ntmps36
  go_wp2_with fail
  refine C.out.mono ?_
  rintro e w1 ⟨r, rfl, hq, hb⟩
  go_wp2_with fail
  go_ret
  exact ⟨r, rfl, hq, hb⟩
set_option maxRecDepth 100000 in
set_option maxHeartbeats 1000000 in
theorem unary_RedAnd (v : Value) (Q : Value → World → Prop) (w : World) (c : Calls Tryz.prog 69 #[v, .func (Fn.func 70) #[] #[]] w fun e w' => ∃ r, e = .returned r ∧ Q r w' ∧ Below w.heap.size w w') :
    Calls Tryz.prog 36 #[.int .i64 7, v] w fun e w' => ∃ r, e = .returned r ∧ Q r w' ∧ Below w.heap.size w w' := by
  have C := Lib.hid c
  clear c
  go_enter Tryz.func36, Tryz.ntmps36
  go_wp2_with fail
  refine C.out.mono ?_
  rintro e w1 ⟨r, rfl, hq, hb⟩
  go_wp2_with fail
  go_ret
  exact ⟨r, rfl, hq, hb⟩
set_option maxRecDepth 100000 in
set_option maxHeartbeats 1000000 in
theorem unary_RedOr (v : Value) (Q : Value → World → Prop) (w : World) (c : Calls Tryz.prog 69 #[v, .func (Fn.func 71) #[] #[]] w fun e w' => ∃ r, e = .returned r ∧ Q r w' ∧ Below w.heap.size w w') :
    Calls Tryz.prog 36 #[.int .i64 8, v] w fun e w' => ∃ r, e = .returned r ∧ Q r w' ∧ Below w.heap.size w w' := by
  have C := Lib.hid c
  clear c
  go_enter Tryz.func36, Tryz.ntmps36
  go_wp2_with fail
  refine C.out.mono ?_
  rintro e w1 ⟨r, rfl, hq, hb⟩
  go_wp2_with fail
  go_ret
  exact ⟨r, rfl, hq, hb⟩
set_option maxRecDepth 100000 in
set_option maxHeartbeats 1000000 in
theorem unary_RedXor (v : Value) (Q : Value → World → Prop) (w : World) (c : Calls Tryz.prog 69 #[v, .func (Fn.func 72) #[] #[]] w fun e w' => ∃ r, e = .returned r ∧ Q r w' ∧ Below w.heap.size w w') :
    Calls Tryz.prog 36 #[.int .i64 9, v] w fun e w' => ∃ r, e = .returned r ∧ Q r w' ∧ Below w.heap.size w w' := by
  have C := Lib.hid c
  clear c
  go_enter Tryz.func36, Tryz.ntmps36
  go_wp2_with fail
  refine C.out.mono ?_
  rintro e w1 ⟨r, rfl, hq, hb⟩
  go_wp2_with fail
  go_ret
  exact ⟨r, rfl, hq, hb⟩
set_option maxRecDepth 100000 in
set_option maxHeartbeats 1000000 in
theorem unary_LNot (v : Value) (w : World) (c : Nat) (hc : c = 116 ∨ c = 102 ∨ c = 117) (k : Calls Tryz.prog 75 #[v] w fun e w' => e = .returned (.int .u8 (c : Nat)) ∧ w = w') :
    Calls Tryz.prog 36 #[.int .i64 10, v] w fun e w' => ∃ r, e = .returned r ∧ Row8 w' r [oneB (oppN c)] ∧ Below w.heap.size w w' := by
  have K := Lib.hid k
  have HP := Lib.hid fun w => opp_is c hc w
  have hd : oppN c = 116 ∨ oppN c = 102 ∨ oppN c = 117 := by rcases hc with rfl | rfl | rfl <;> simp [oppN]
  have HO := Lib.hid fun w => one_is (oppN c) hd w
  clear k hc hd
  generalize oppN c = d at HP HO ⊢
  go_enter Tryz.func36, Tryz.ntmps36
  go_wp2_with fail
  refine K.out.mono ?_
  rintro e w1 ⟨rfl, rfl⟩
  go_wp2_with fail
  refine (HP.out _).mono ?_
  rintro e w1 ⟨rfl, rfl⟩
  go_wp2_with fail
  refine (HO.out _).mono ?_
  rintro e w2 ⟨r, rfl, hr, hb2⟩
  go_wp2_with fail
  go_ret
  exact ⟨r, rfl, hr, hb2⟩
set_option maxRecDepth 100000 in
set_option maxHeartbeats 1000000 in
theorem Unary_is (op : Int) (v : Value) (Q : Value → World → Prop) (w : World) (c : Calls Tryz.prog 36 #[.int .i64 op, v] w fun e w' => ∃ r, e = .returned r ∧ Q r w' ∧ Below w.heap.size w w') :
    Calls Tryz.prog 15 #[.int .i64 op, v] w fun e w' => ∃ r, e = .returned r ∧ Q r w' ∧ Below w.heap.size w w' := by
  have C := Lib.hid c
  clear c
  go_enter Tryz.func15, Tryz.ntmps15
  go_wp2_with fail
  refine C.out.mono ?_
  rintro e w1 ⟨r, rfl, hq, hb⟩
  go_wp2_with fail
  go_ret
  exact ⟨r, rfl, hq, hb⟩
/-- a new slice of one byte that the call owns -/
def One9 (B : Nat) (x : UInt8) (w : World) (v : Value) : Prop := w.ownsRow B 5 1 v 1 [.int .u8 x.toNat] ∧ ∃ b, v = .slice (some ⟨b, 0, none⟩) 1 1 ∧ w.cell? ⟨b, 0, none⟩ = some (.int .u8 (x.toNat : Int))
set_option maxRecDepth 100000 in
theorem one9_new (w : World) (x : UInt8) : One9 w.heap.size x (w.alloc (Obj.cells #[Value.int IntKind.u8 x.toNat] 5)) (.slice (some ⟨w.heap.size, 0, none⟩) 1 1) :=
  ⟨⟨rfl, .inr ⟨w.heap.size, 1, #[.int .u8 x.toNat], rfl, Nat.le_refl _, by show (w.heap.push _)[w.heap.size]? = _; exact Array.getElem?_push_size, Nat.le_refl _, by unfold maxLen; omega, rfl, rfl⟩⟩, _, rfl, by go_simp⟩
theorem one_own (c : Nat) (hc : c = 116 ∨ c = 102 ∨ c = 117) (w : World) : Calls Tryz.prog 73 #[.int .u8 (c : Int)] w fun e w' => ∃ v, e = .returned v ∧ One9 w.heap.size (oneB c) w' v ∧ Below w.heap.size w w' := by
  rcases hc with rfl | rfl | rfl
  · show Calls Tryz.prog 73 #[.int .u8 116] w _
    go_enter Tryz.func73, Tryz.ntmps73
    go_wp2_with fail
    go_ret
    exact ⟨_, rfl, one9_new _ _, (Below.refl _ _).alloc (Nat.le_refl _) _⟩
  · show Calls Tryz.prog 73 #[.int .u8 102] w _
    go_enter Tryz.func73, Tryz.ntmps73
    go_wp2_with fail
    go_ret
    exact ⟨_, rfl, one9_new _ _, (Below.refl _ _).alloc (Nat.le_refl _) _⟩
  · show Calls Tryz.prog 73 #[.int .u8 117] w _
    go_enter Tryz.func73, Tryz.ntmps73
    go_wp2_with fail
    go_ret
    exact ⟨_, rfl, one9_new _ _, (Below.refl _ _).alloc (Nat.le_refl _) _⟩
set_option maxRecDepth 100000 in
set_option maxHeartbeats 2000000 in
theorem Binary_LAnd (v u : Value) (s : Bool) (w : World) (c d : Nat) (hc : c = 116 ∨ c = 102 ∨ c = 117) (hd : d = 116 ∨ d = 102 ∨ d = 117)
    (k : Calls Tryz.prog 75 #[v] w fun e w' => e = .returned (.int .u8 (c : Nat)) ∧ w = w')
    (k2 : ∀ w', Below w.heap.size w w' → Calls Tryz.prog 75 #[u] w' fun e w1 => e = .returned (.int .u8 (d : Nat)) ∧ w' = w1) :
    Calls Tryz.prog 41 #[.int .i64 11, v, u, .bool s] w fun e w' => ∃ r, e = .returned r ∧ Row8 w' r [zx (fk andB [oneB c, oneB d] 1)] ∧ Below w.heap.size w w' := by
  obtain ⟨t0, hti, hz0, hz1, hz2⟩ := info_parts info5
  have K := Lib.hid k
  have K2 := Lib.hid k2
  have HC := Lib.hid fun w => one_own c hc w
  have HD := Lib.hid fun w => one_own d hd w
  clear k k2 hc hd
  generalize oneB c = x at HC ⊢
  generalize oneB d = y at HD ⊢
  go_enter Tryz.func41, Tryz.ntmps41
  go_wp2_with fail
  refine K.out.mono ?_
  rintro e w1 ⟨rfl, rfl⟩
  go_wp2_with fail
  refine (HC.out _).mono ?_
  rintro e w1 ⟨r, rfl, hr, hb1⟩
  go_wp2_with fail
  refine (K2.out _ hb1).mono ?_
  rintro e w2 ⟨rfl, rfl⟩
  go_wp2_with fail
  refine (HD.out _).mono ?_
  rintro e w2 ⟨r2, rfl, hr2, hb2⟩
  have lo2 := hb1.trans (hb2.mono hb1.size)
  have HR := Lib.hid (own_below hr.1 hb2)
  obtain ⟨-, bz, rfl, hz⟩ := hr2
  obtain ⟨-, bq, rfl, -⟩ := hr
  clear hb1 hb2
  go_wp2_with (at_builtin; refine wpList_append_own _ rfl _ _ 30 rfl w.heap.size 5 t0 (.int .u8 0) 1 1 Tryz.underlying30 hti hz0 hz1 hz2 rfl (by decide) _ _ _ rfl HR.out ⟨bz, 0, none⟩ 1 1 [.int .u8 y.toNat] rfl rfl ?d1 ?d2 ?d3 ?d4 ?d5 ?_)
  case d1 =>
    intro q u hq
    match q, hq with
    | 0, hq => simp at hq; subst hq; simpa [Addr.add] using hz
  case d2 => intro u hu; simp at hu; subst hu; rfl
  case d3 => unfold maxLen; omega
  case d4 => omega
  case d5 => exact lo2.size
  intro v5 w5 hown5 hgr5 _
  have lo5 : Below w.heap.size w w5 := lo2.grown hgr5 lo2.size (fun k hk => (HR.out.lt k hk).1)
  have H5 := Lib.hid (show Row8 w5 v5 [x, y] from row8_own (B := w.heap.size) (by exact hown5))
  clear hown5 hgr5
  go_wp2_with fail
  refine (fold_and v5 [x, y] 1 rfl (by decide) _ H5.out).mono ?_
  rintro e w6 ⟨r6, rfl, hr6, hb6⟩
  go_wp2_with fail
  go_ret
  exact ⟨r6, rfl, hr6, lo5.trans (hb6.mono lo5.size)⟩
set_option maxRecDepth 100000 in
set_option maxHeartbeats 2000000 in
theorem Binary_LOr (v u : Value) (s : Bool) (w : World) (c d : Nat) (hc : c = 116 ∨ c = 102 ∨ c = 117) (hd : d = 116 ∨ d = 102 ∨ d = 117)
    (k : Calls Tryz.prog 75 #[v] w fun e w' => e = .returned (.int .u8 (c : Nat)) ∧ w = w')
    (k2 : ∀ w', Below w.heap.size w w' → Calls Tryz.prog 75 #[u] w' fun e w1 => e = .returned (.int .u8 (d : Nat)) ∧ w' = w1) :
    Calls Tryz.prog 41 #[.int .i64 12, v, u, .bool s] w fun e w' => ∃ r, e = .returned r ∧ Row8 w' r [zx (fk orB [oneB c, oneB d] 1)] ∧ Below w.heap.size w w' := by
  obtain ⟨t0, hti, hz0, hz1, hz2⟩ := info_parts info5
  have K := Lib.hid k
  have K2 := Lib.hid k2
  have HC := Lib.hid fun w => one_own c hc w
  have HD := Lib.hid fun w => one_own d hd w
  clear k k2 hc hd
  generalize oneB c = x at HC ⊢
  generalize oneB d = y at HD ⊢
  go_enter Tryz.func41, Tryz.ntmps41
  go_wp2_with fail
  refine K.out.mono ?_
  rintro e w1 ⟨rfl, rfl⟩
  go_wp2_with fail
  refine (HC.out _).mono ?_
  rintro e w1 ⟨r, rfl, hr, hb1⟩
  go_wp2_with fail
  refine (K2.out _ hb1).mono ?_
  rintro e w2 ⟨rfl, rfl⟩
  go_wp2_with fail
  refine (HD.out _).mono ?_
  rintro e w2 ⟨r2, rfl, hr2, hb2⟩
  have lo2 := hb1.trans (hb2.mono hb1.size)
  have HR := Lib.hid (own_below hr.1 hb2)
  obtain ⟨-, bz, rfl, hz⟩ := hr2
  obtain ⟨-, bq, rfl, -⟩ := hr
  clear hb1 hb2
  go_wp2_with (at_builtin; refine wpList_append_own _ rfl _ _ 30 rfl w.heap.size 5 t0 (.int .u8 0) 1 1 Tryz.underlying30 hti hz0 hz1 hz2 rfl (by decide) _ _ _ rfl HR.out ⟨bz, 0, none⟩ 1 1 [.int .u8 y.toNat] rfl rfl ?d1 ?d2 ?d3 ?d4 ?d5 ?_)
  case d1 =>
    intro q u hq
    match q, hq with
    | 0, hq => simp at hq; subst hq; simpa [Addr.add] using hz
  case d2 => intro u hu; simp at hu; subst hu; rfl
  case d3 => unfold maxLen; omega
  case d4 => omega
  case d5 => exact lo2.size
  intro v5 w5 hown5 hgr5 _
  have lo5 : Below w.heap.size w w5 := lo2.grown hgr5 lo2.size (fun k hk => (HR.out.lt k hk).1)
  have H5 := Lib.hid (show Row8 w5 v5 [x, y] from row8_own (B := w.heap.size) (by exact hown5))
  clear hown5 hgr5
  go_wp2_with fail
  refine (fold_or v5 [x, y] 1 rfl (by decide) _ H5.out).mono ?_
  rintro e w6 ⟨r6, rfl, hr6, hb6⟩
  go_wp2_with fail
  go_ret
  exact ⟨r6, rfl, hr6, lo5.trans (hb6.mono lo5.size)⟩
theorem jstrict {op : Int} (h : looseB op = false) (a b : Rb) : okc op a b = alikeB a b := by unfold okc alikeB; rw [h, Bool.false_or]
theorem jloose {op : Int} (h : looseB op = true) (a b : Rb) : okc op a b = (a.okB && b.okB) := by unfold okc; rw [h]; simp
theorem lf_row {w w' : World} {P : Rb} {l : List UInt8} {e : Ending} (hP : Bl l = P) (hl : l.length ≤ 1000000) (h : ∃ r, e = .returned r ∧ Row8 w' r l ∧ Below w.heap.size w w') : ∃ r, e = .returned r ∧ (∃ l, Row8 w' r l ∧ Bl l = P ∧ l.length ≤ 1000000) ∧ Below w.heap.size w w' := by
  obtain ⟨r, he, hr, hb⟩ := h
  exact ⟨r, he, ⟨_, hr, hP, hl⟩, hb⟩
theorem lo_no (f : Nat → Vx → Vx → Vx) {a b : Rb} (h : (a.okB && b.okB) = false) : biR f (unR (fun _ => 1) (fun _ => redor) a) (unR (fun _ => 1) (fun _ => redor) b) = ZR := by
  cases ha : a.okB
  · rw [unR_no ha]; exact biR_no (by unfold alikeB; rfl)
  · cases hb : b.okB
    · rw [unR_no hb]; refine biR_no ?_
      unfold alikeB
      rw [show ZR.okB = false from rfl, Bool.and_false, Bool.false_and]
    · rw [ha, hb] at h; cases h
theorem fact_And (a b : Rb) (s : Bool) : OpFact a b s 13 (biR vand a b) := by
  refine ⟨fun w => binary_And a b _ s (fun w => and_any a b w) w, fun hk w v u h h' => ?_, fun hk => ?_⟩
  rotate_left
  · rw [jstrict rfl] at hk
    exact biR_no hk
  rw [jstrict rfl] at hk
  obtain ⟨n, en, em, oa, ob⟩ := alike_of hk
  obtain ⟨aW, av, ax⟩ := a
  obtain ⟨bW, bv, bx⟩ := b
  obtain rfl : aW = n := en
  obtain rfl : bW = n := em
  have n1 := oa.lo
  have n2 := oa.hi
  unfold vR at h h'
  rw [Int.toNat_natCast] at h h'
  rw [biR_ok hk]
  have c := each_and v u _ _ (by rw [vl_len, vl_len]) (by rw [vl_len]; omega) w h h'
  rw [and_vl ⟨av, ax⟩ ⟨bv, bx⟩ n2] at c
  exact Binary_And v u s _ w (c.mono fun e w' hh => lf_row (Bl_vl (vand_ok oa)) (by rw [vl_len]; omega) hh)
theorem fact_Or (a b : Rb) (s : Bool) : OpFact a b s 14 (biR vor a b) := by
  refine ⟨fun w => binary_Or a b _ s (fun w => or_any a b w) w, fun hk w v u h h' => ?_, fun hk => ?_⟩
  rotate_left
  · rw [jstrict rfl] at hk
    exact biR_no hk
  rw [jstrict rfl] at hk
  obtain ⟨n, en, em, oa, ob⟩ := alike_of hk
  obtain ⟨aW, av, ax⟩ := a
  obtain ⟨bW, bv, bx⟩ := b
  obtain rfl : aW = n := en
  obtain rfl : bW = n := em
  have n1 := oa.lo
  have n2 := oa.hi
  unfold vR at h h'
  rw [Int.toNat_natCast] at h h'
  rw [biR_ok hk]
  have c := each_or v u _ _ (by rw [vl_len, vl_len]) (by rw [vl_len]; omega) w h h'
  rw [or_vl ⟨av, ax⟩ ⟨bv, bx⟩ n2] at c
  exact Binary_Or v u s _ w (c.mono fun e w' hh => lf_row (Bl_vl (vor_ok oa ob)) (by rw [vl_len]; omega) hh)
theorem fact_Xor (a b : Rb) (s : Bool) : OpFact a b s 15 (biR vxor a b) := by
  refine ⟨fun w => binary_Xor a b _ s (fun w => xor_any a b w) w, fun hk w v u h h' => ?_, fun hk => ?_⟩
  rotate_left
  · rw [jstrict rfl] at hk
    exact biR_no hk
  rw [jstrict rfl] at hk
  obtain ⟨n, en, em, oa, ob⟩ := alike_of hk
  obtain ⟨aW, av, ax⟩ := a
  obtain ⟨bW, bv, bx⟩ := b
  obtain rfl : aW = n := en
  obtain rfl : bW = n := em
  have n1 := oa.lo
  have n2 := oa.hi
  unfold vR at h h'
  rw [Int.toNat_natCast] at h h'
  rw [biR_ok hk]
  have c := each_xor v u _ _ (by rw [vl_len, vl_len]) (by rw [vl_len]; omega) w h h'
  rw [xor_vl ⟨av, ax⟩ ⟨bv, bx⟩ n2] at c
  exact Binary_Xor v u s _ w (c.mono fun e w' hh => lf_row (Bl_vl (vxor_ok oa ob)) (by rw [vl_len]; omega) hh)
theorem fact_LAnd (a b : Rb) (s : Bool) : OpFact a b s 11 (biR vand (unR (fun _ => 1) (fun _ => redor) a) (unR (fun _ => 1) (fun _ => redor) b)) := by
  refine ⟨fun w => binary_LAnd a b _ s (fun w => land_any a b w) w, fun hk w v u h h' => ?_, fun hk => ?_⟩
  rotate_left
  · rw [jloose rfl] at hk
    exact lo_no _ hk
  rw [jloose rfl, Bool.and_eq_true] at hk
  obtain ⟨n, en, oa⟩ := Rb.ok_of hk.1
  obtain ⟨m, em, ob⟩ := Rb.ok_of hk.2
  obtain ⟨aW, av, ax⟩ := a
  obtain ⟨bW, bv, bx⟩ := b
  obtain rfl : aW = n := en
  obtain rfl : bW = m := em
  have n1 := oa.lo
  have n2 := oa.hi
  have m2 := ob.hi
  unfold vR at h h'
  rw [Int.toNat_natCast] at h h'
  have e1 := unR_ok (g := fun _ => 1) (f := fun _ => redor) (a := ⟨av, ax⟩) oa
  have e2 := unR_ok (g := fun _ => 1) (f := fun _ => redor) (a := ⟨bv, bx⟩) ob
  simp only at e1 e2
  rw [e1, e2]
  have c := refTruth_any v _ (by rw [vl_len]; omega) w h
  refine (Binary_LAnd v u s w _ _ (truthL_in _) (truthL_in (vl ⟨bv, bx⟩ m)) c (fun w' hb => refTruth_any u _ (by rw [vl_len]; omega) w' (h'.below hb))).mono fun e w' hh => lf_row ?_ (by simp) hh
  have hal : alikeB ⟨((1 : Nat) : Int), (redor ⟨av, ax⟩).v, (redor ⟨av, ax⟩).x⟩ ⟨((1 : Nat) : Int), (redor ⟨bv, bx⟩).v, (redor ⟨bv, bx⟩).x⟩ = true := by
    unfold alikeB
    rw [Rb.okB_of (redor_ok ⟨av, ax⟩), Rb.okB_of (redor_ok ⟨bv, bx⟩)]; rfl
  rw [biR_ok hal]
  exact (two_t (truth_two oa) (truth_two ob)).1
theorem fact_LOr (a b : Rb) (s : Bool) : OpFact a b s 12 (biR vor (unR (fun _ => 1) (fun _ => redor) a) (unR (fun _ => 1) (fun _ => redor) b)) := by
  refine ⟨fun w => binary_LOr a b _ s (fun w => lor_any a b w) w, fun hk w v u h h' => ?_, fun hk => ?_⟩
  rotate_left
  · rw [jloose rfl] at hk
    exact lo_no _ hk
  rw [jloose rfl, Bool.and_eq_true] at hk
  obtain ⟨n, en, oa⟩ := Rb.ok_of hk.1
  obtain ⟨m, em, ob⟩ := Rb.ok_of hk.2
  obtain ⟨aW, av, ax⟩ := a
  obtain ⟨bW, bv, bx⟩ := b
  obtain rfl : aW = n := en
  obtain rfl : bW = m := em
  have n1 := oa.lo
  have n2 := oa.hi
  have m2 := ob.hi
  unfold vR at h h'
  rw [Int.toNat_natCast] at h h'
  have e1 := unR_ok (g := fun _ => 1) (f := fun _ => redor) (a := ⟨av, ax⟩) oa
  have e2 := unR_ok (g := fun _ => 1) (f := fun _ => redor) (a := ⟨bv, bx⟩) ob
  simp only at e1 e2
  rw [e1, e2]
  have c := refTruth_any v _ (by rw [vl_len]; omega) w h
  refine (Binary_LOr v u s w _ _ (truthL_in _) (truthL_in (vl ⟨bv, bx⟩ m)) c (fun w' hb => refTruth_any u _ (by rw [vl_len]; omega) w' (h'.below hb))).mono fun e w' hh => lf_row ?_ (by simp) hh
  have hal : alikeB ⟨((1 : Nat) : Int), (redor ⟨av, ax⟩).v, (redor ⟨av, ax⟩).x⟩ ⟨((1 : Nat) : Int), (redor ⟨bv, bx⟩).v, (redor ⟨bv, bx⟩).x⟩ = true := by
    unfold alikeB
    rw [Rb.okB_of (redor_ok ⟨av, ax⟩), Rb.okB_of (redor_ok ⟨bv, bx⟩)]; rfl
  rw [biR_ok hal]
  exact (two_t (truth_two oa) (truth_two ob)).2
end Go.Proofs.YtodldcdfdjooaaaGreatDoor
namespace Go.Proofs.YtodldcdfdjooaaaGreatDoor
open Go Go.RowKit Go.Sort
set_option linter.unusedVariables false
/-- what is known of one operation with one operand -/
structure UFact (a : Rb) (op : Int) (P : Rb) : Prop where
  ref : a.okB = true → ∀ w v, Row8 w v (vR a) → Calls Tryz.prog 15 #[.int .i64 op, v] w fun e w' => ∃ r, e = .returned r ∧ LF P r w' ∧ Below w.heap.size w w'
  ill : a.okB = false → P = ZR
abbrev pNot (a : Rb) : Rb := unR (fun n => n) vnot a
abbrev pOr (a : Rb) : Rb := unR (fun _ => 1) (fun _ => redor) a
abbrev pXor (a : Rb) : Rb := unR (fun _ => 1) (fun _ => vredxor) a
theorem lf_of {w w' : World} {P : Rb} {l : List UInt8} {e : Ending} (hP : Bl l = P) (hl : l.length ≤ 1000000) (h : ∃ r, e = .returned r ∧ Row8 w' r l ∧ Below w.heap.size w w') : ∃ r, e = .returned r ∧ LF P r w' ∧ Below w.heap.size w w' := by
  obtain ⟨r, he, hr, hb⟩ := h
  exact ⟨r, he, ⟨_, hr, hP, hl⟩, hb⟩
theorem ufact_Not (a : Rb) : UFact a 5 (pNot a) := by
  refine ⟨fun hk w v h => ?_, fun h => unR_no h⟩
  obtain ⟨n, en, oa⟩ := Rb.ok_of hk
  obtain ⟨aW, av, ax⟩ := a
  obtain rfl : aW = n := en
  have n2 := oa.hi
  unfold vR at h
  rw [Int.toNat_natCast] at h
  have c := inverse_any v _ (by rw [vl_len]; omega) w h
  rw [not_vl ⟨av, ax⟩ n2] at c
  refine Unary_is 5 v _ w (unary_Not v _ w (c.mono fun e w' hh => lf_of ?_ (by rw [vl_len]; omega) hh))
  show _ = unR (fun n => n) vnot ⟨n, av, ax⟩
  rw [unR_ok (g := fun n => n) (f := vnot) (a := ⟨av, ax⟩) oa]
  exact Bl_vl (vnot_ok oa)
theorem ufact_RedAnd (a : Rb) : UFact a 7 (pNot (pOr (pNot a))) := by
  refine ⟨fun hk w v h => ?_, fun h => ?_⟩
  · obtain ⟨n, en, oa⟩ := Rb.ok_of hk
    obtain ⟨aW, av, ax⟩ := a
    obtain rfl : aW = n := en
    have n1 := oa.lo
    have n2 := oa.hi
    unfold vR at h
    rw [Int.toNat_natCast] at h
    have c := fold_and v _ (n - 1) (by rw [vl_len]; omega) (by omega) w h
    refine Unary_is 7 v _ w (unary_RedAnd v _ w (c.mono fun e w' hh => lf_of ?_ (by simp) hh))
    have e1 := unR_ok (g := fun n => n) (f := vnot) (a := ⟨av, ax⟩) oa
    have e2 := unR_ok (g := fun _ => 1) (f := fun _ => redor) (a := vnot n ⟨av, ax⟩) (vnot_ok oa)
    have e3 := unR_ok (g := fun n => n) (f := vnot) (a := redor (vnot n ⟨av, ax⟩)) (redor_ok _)
    simp only at e1 e2 e3
    unfold pNot pOr
    rw [e1, e2, e3]
    exact redand_vl oa
  · unfold pNot pOr; rw [unR_no h, unR_no (a := ZR) rfl, unR_no (a := ZR) rfl]
theorem ufact_RedOr (a : Rb) : UFact a 8 (pOr a) := by
  refine ⟨fun hk w v h => ?_, fun h => ?_⟩
  · obtain ⟨n, en, oa⟩ := Rb.ok_of hk
    obtain ⟨aW, av, ax⟩ := a
    obtain rfl : aW = n := en
    have n1 := oa.lo
    have n2 := oa.hi
    unfold vR at h
    rw [Int.toNat_natCast] at h
    have c := fold_or v _ (n - 1) (by rw [vl_len]; omega) (by omega) w h
    refine Unary_is 8 v _ w (unary_RedOr v _ w (c.mono fun e w' hh => lf_of ?_ (by simp) hh))
    show _ = unR (fun _ => 1) (fun _ => redor) ⟨n, av, ax⟩
    rw [unR_ok (g := fun _ => 1) (f := fun _ => redor) (a := ⟨av, ax⟩) oa]
    exact redor_vl oa
  · exact unR_no h
theorem ufact_RedXor (a : Rb) : UFact a 9 (pXor a) := by
  refine ⟨fun hk w v h => ?_, fun h => ?_⟩
  · obtain ⟨n, en, oa⟩ := Rb.ok_of hk
    obtain ⟨aW, av, ax⟩ := a
    obtain rfl : aW = n := en
    have n1 := oa.lo
    have n2 := oa.hi
    unfold vR at h
    rw [Int.toNat_natCast] at h
    have c := fold_xor v _ (n - 1) (by rw [vl_len]; omega) (by omega) w h
    refine Unary_is 9 v _ w (unary_RedXor v _ w (c.mono fun e w' hh => lf_of ?_ (by simp) hh))
    show _ = unR (fun _ => 1) (fun _ => vredxor) ⟨n, av, ax⟩
    rw [unR_ok (g := fun _ => 1) (f := fun _ => vredxor) (a := ⟨av, ax⟩) oa]
    exact redxor_vl oa
  · exact unR_no h
theorem ufact_LNot (a : Rb) : UFact a 10 (lnotR a) := by
  refine ⟨fun hk w v h => ?_, fun h => by unfold lnotR; rw [h]; rfl⟩
  obtain ⟨n, en, oa⟩ := Rb.ok_of hk
  obtain ⟨aW, av, ax⟩ := a
  obtain rfl : aW = n := en
  have n2 := oa.hi
  unfold vR at h
  rw [Int.toNat_natCast] at h
  have c := refTruth_any v _ (by rw [vl_len]; omega) w h
  refine Unary_is 10 v _ w ((unary_LNot v w _ (truthL_in _) c).mono fun e w' hh => lf_of ?_ (by simp) hh)
  unfold lnotR
  rw [hk]
  exact nred_vl oa
def OP5 : List Int := [5, 7, 8, 9, 10]
def PL (a : Rb) : List Rb := [pNot a, pNot (pOr (pNot a)), pOr a, pXor a, lnotR a]
theorem ufacts (a : Rb) : ∀ k, k < 5 → UFact a (OP5.getD k 0) ((PL a).getD k ZR)
  | 0, _ => ufact_Not a
  | 1, _ => ufact_RedAnd a
  | 2, _ => ufact_RedOr a
  | 3, _ => ufact_RedXor a
  | 4, _ => ufact_LNot a
  | k + 5, h => by omega
/-- a slice of vectors that can be read -/
def RowB (L : List Rb) : Fa := fun v w => ∃ bl off, v = .slice (some ⟨bl, off, none⟩) 5 5 ∧ ∀ j, j < 5 → w.cell? ⟨bl, off + j * 3, none⟩ = some (.int .i64 (L.getD j ZR).W) ∧ w.cell? ⟨bl, off + j * 3 + 1, none⟩ = some (.int .u64 (U (L.getD j ZR).v)) ∧ w.cell? ⟨bl, off + j * 3 + 2, none⟩ = some (.int .u64 (U (L.getD j ZR).x))
theorem rowB_sta (L : List Rb) : Sta (RowB L) := fun v w w' ⟨bl, off, hv, hc⟩ hb => ⟨bl, off, hv, fun j hj => by
  obtain ⟨c0, c1, c2⟩ := hc j hj
  have hlt : bl < w.heap.size := World.block_lt_of_cell? w _ c0
  exact ⟨(hb.cell (p := ⟨bl, _, none⟩) hlt).trans c0, (hb.cell (p := ⟨bl, _, none⟩) hlt).trans c1, (hb.cell (p := ⟨bl, _, none⟩) hlt).trans c2⟩⟩
/-- the vector that is wanted, in a box of its own -/
structure RX (W0 : World) (g : Nat) (P : Rb) (W : World) : Prop where
  lo : Below W0.heap.size W0 W
  bp : Box W g P.W (U P.v) (U P.x)
  le : W0.heap.size ≤ g
theorem RX.below {W0 : World} {g : Nat} {P : Rb} {W W' : World} (h : RX W0 g P W) (hb : Below W.heap.size W W') : RX W0 g P W' := ⟨h.lo.trans (hb.mono h.lo.size), h.bp.below hb, h.le⟩
theorem RX.put {W0 : World} {g : Nat} {P : Rb} {W : World} (h : RX W0 g P W) (d : Rb) : RX W0 g d (((W.setCell ⟨g, 0, none⟩ (.int .i64 d.W)).setCell ⟨g, 1, none⟩ (.int .u64 (U d.v))).setCell ⟨g, 2, none⟩ (.int .u64 (U d.x))) :=
  ⟨((h.lo.setCell h.le _).setCell h.le _).setCell h.le _, h.bp.set _ _ _, h.le⟩
theorem rx_new {W0 wr : World} (h : Below W0.heap.size W0 wr) : RX W0 wr.heap.size ZR (wr.alloc zObjP) := by
  refine ⟨h.alloc h.size _, ?_, h.size⟩
  simp only [ZR, show U 0#64 = 0 from by decide]; exact ⟨by go_simp, by go_simp, by go_simp, fun o => by go_simp⟩
set_option maxRecDepth 100000 in
set_option maxHeartbeats 8000000 in
theorem bitsJoined_any {B : Nat} (a b : Rb) (w : World) (hG : Glob B w) : Calls Tryz.prog 3 #[.agg #[.int .i64 a.W, .int .u64 (U a.v), .int .u64 (U a.x)], .agg #[.int .i64 b.W, .int .u64 (U b.v), .int .u64 (U b.x)]] w fun e w' => e = .returned (.bool true) ∧ Below w.heap.size w w' := by
  have HG := Lib.hid hG
  have HP := Lib.hid fun v w hv => pair_ok [13, 14, 15, 11, 12] (by decide) v a b false w hv (fun op ho => by
    simp only [List.mem_cons, List.not_mem_nil, or_false] at ho
    rcases ho with rfl | rfl | rfl | rfl | rfl
    · exact ⟨_, fact_And a b false⟩
    · exact ⟨_, fact_Or a b false⟩
    · exact ⟨_, fact_Xor a b false⟩
    · exact ⟨_, fact_LAnd a b false⟩
    · exact ⟨_, fact_LOr a b false⟩)
  have HU := Lib.hid (ufacts a)
  have k1 := Lib.hid fun w => not_any a w
  have k2 := Lib.hid fun w => redand_any a w
  have k3 := Lib.hid fun w => redor_any a w
  have k4 := Lib.hid fun w => redxor_any a w
  have k5 := Lib.hid fun w => lnot_any a w
  obtain ⟨L, hL⟩ : ∃ L, PL a = L := ⟨_, rfl⟩
  rw [hL] at HU
  change Hid (∀ w, Calls _ _ _ w fun e w' => e = .returned (.agg #[.int .i64 (pNot a).W, .int .u64 (U (pNot a).v), .int .u64 (U (pNot a).x)]) ∧ Below w.heap.size w w') at k1
  change Hid (∀ w, Calls _ _ _ w fun e w' => e = .returned (.agg #[.int .i64 (pNot (pOr (pNot a))).W, .int .u64 (U (pNot (pOr (pNot a))).v), .int .u64 (U (pNot (pOr (pNot a))).x)]) ∧ Below w.heap.size w w') at k2
  change Hid (∀ w, Calls _ _ _ w fun e w' => e = .returned (.agg #[.int .i64 (pOr a).W, .int .u64 (U (pOr a).v), .int .u64 (U (pOr a).x)]) ∧ Below w.heap.size w w') at k3
  change Hid (∀ w, Calls _ _ _ w fun e w' => e = .returned (.agg #[.int .i64 (pXor a).W, .int .u64 (U (pXor a).v), .int .u64 (U (pXor a).x)]) ∧ Below w.heap.size w w') at k4
  have hL2 : L = [pNot a, pNot (pOr (pNot a)), pOr a, pXor a, lnotR a] := hL.symm
  clear hL
  generalize pNot (pOr (pNot a)) = P2 at k2 hL2
  generalize pNot a = P1 at k1 hL2
  generalize pOr a = P3 at k3 hL2
  generalize pXor a = P4 at k4 hL2
  generalize lnotR a = P5 at k5 hL2
  have HL := Lib.hid hL2
  clear hL2 hG
  go_enter Tryz.func3, Tryz.ntmps3
  go_wp2_with fail
  have T := px_new (w := w) a b
  generalize ((w.alloc (Obj.cells #[Value.int IntKind.i64 a.W, Value.int IntKind.u64 (U a.v), Value.int IntKind.u64 (U a.x)] 24)).alloc (Obj.cells #[Value.int IntKind.i64 b.W, Value.int IntKind.u64 (U b.v), Value.int IntKind.u64 (U b.x)] 24)) = w0 at T ⊢
  obtain ⟨⟨a0, a1, a2, af⟩, ⟨b0, b1, b2, bf⟩, lo⟩ := id T
  have ga0 := cell_regrown a0
  have ga1 := cell_regrown a1
  have ga2 := cell_regrown a2
  refine wp_region_rel 11 (by kernel_rfl) (by kernel_rfl) ?_
  simp only [List.take_succ_cons, List.take_zero, List.drop_succ_cons, List.drop_zero]
  (refine rel_fix0 (fun K hK => ?_); go_simp; refine hK _ ?_; clear hK K)
  (refine rel_fix0 (fun K hK => ?_); go_simp; apply Exists.intro; refine ⟨fun _ _ => ?_, hK _ ?_⟩; (with_reducible exact ret_fix (k1.out _)); clear hK K)
  (refine rel_fix0 (fun K hK => ?_); go_simp; refine hK _ ?_; clear hK K)
  (refine rel_fix0 (fun K hK => ?_); go_simp; apply Exists.intro; refine ⟨fun _ _ => ?_, hK _ ?_⟩; (with_reducible exact ret_fix (k2.out _)); clear hK K)
  (refine rel_fix0 (fun K hK => ?_); go_simp; refine hK _ ?_; clear hK K)
  (refine rel_fix0 (fun K hK => ?_); go_simp; apply Exists.intro; refine ⟨fun _ _ => ?_, hK _ ?_⟩; (with_reducible exact ret_fix (k3.out _)); clear hK K)
  (refine rel_fix0 (fun K hK => ?_); go_simp; refine hK _ ?_; clear hK K)
  (refine rel_fix0 (fun K hK => ?_); go_simp; apply Exists.intro; refine ⟨fun _ _ => ?_, hK _ ?_⟩; (with_reducible exact ret_fix (k4.out _)); clear hK K)
  (refine rel_fix0 (fun K hK => ?_); go_simp; refine hK _ ?_; clear hK K)
  (refine rel_fix0 (fun K hK => ?_); go_simp; apply Exists.intro; refine ⟨fun _ _ => ?_, hK _ ?_⟩; (with_reducible exact ret_fix (k5.out _)); clear hK K)
  refine rel_fact [] (RowB L) 19 rfl (by simp [Act.put]) (rowB_sta _) (by rfl) (by kernel_rfl) (by kernel_rfl) ?_ ?_
  · intro d os
    simp only [relAll]
    go_simp
    refine ⟨⟨_, 0, rfl, fun j hj => ?_⟩, (Below.refl _ _).alloc (Nat.le_of_eq Array.size_append.symm) _⟩
    rw [HL.out]
    match j, hj with
    | 0, _ => exact ⟨by go_simp, by go_simp, by go_simp⟩
    | 1, _ => exact ⟨by go_simp, by go_simp, by go_simp⟩
    | 2, _ => exact ⟨by go_simp, by go_simp, by go_simp⟩
    | 3, _ => exact ⟨by go_simp, by go_simp, by go_simp⟩
    | 4, _ => exact ⟨by go_simp, by go_simp, by go_simp⟩
  refine rel_nil ?_
  intro d os
  simp only [relAll]
  rintro v1 hv1
  clear ga0 ga1 ga2 k1 k2 k3 k4 k5 HL a0 a1 a2 af b0 b1 b2 bf lo
  replace T := T.below (below_regrown _ d os)
  generalize grow (redrawn _ d) os = w1 at T hv1 ⊢
  obtain ⟨bl, off, rfl, hgot⟩ := hv1
  go_upto_block 0 with fail
  have b10 : Below w1.heap.size w1 (w1.alloc (Obj.cells #[Value.int IntKind.i64 5, Value.int IntKind.i64 7, Value.int IntKind.i64 8, Value.int IntKind.i64 9, Value.int IntKind.i64 10] 3)) := (Below.refl _ _).alloc (Nat.le_refl _) _
  have T2 := T.below b10
  have hgot2 : ∀ j, j < 5 → _ := (fun j hj => by
    obtain ⟨c0, c1, c2⟩ := hgot j hj
    have hlt : bl < w1.heap.size := World.block_lt_of_cell? w1 _ c0
    exact (⟨(b10.cell (p := ⟨bl, _, none⟩) hlt).trans c0, (b10.cell (p := ⟨bl, _, none⟩) hlt).trans c1, (b10.cell (p := ⟨bl, _, none⟩) hlt).trans c2⟩ : _ ∧ _ ∧ _))
  have hops : ∃ bo oo, (Value.slice (some ⟨w1.heap.size, 0, none⟩) 5 5) = .slice (some ⟨bo, oo, none⟩) 5 5 ∧ ∀ q, q < 5 → (w1.alloc (Obj.cells #[Value.int IntKind.i64 5, Value.int IntKind.i64 7, Value.int IntKind.i64 8, Value.int IntKind.i64 9, Value.int IntKind.i64 10] 3)).cell? ⟨bo, oo + q, none⟩ = some (.int .i64 (OP5.getD q 0)) := ⟨_, 0, rfl, fun q hq => by
    match q, hq with
    | 0, _ => go_simp; rfl
    | 1, _ => go_simp; rfl
    | 2, _ => go_simp; rfl
    | 3, _ => go_simp; rfl
    | 4, _ => go_simp; rfl⟩
  obtain ⟨bo, oo, hvo, hops⟩ := hops
  rw [hvo]
  clear hvo b10 hgot T
  generalize (w1.alloc (Obj.cells #[Value.int IntKind.i64 5, Value.int IntKind.i64 7, Value.int IntKind.i64 8, Value.int IntKind.i64 9, Value.int IntKind.i64 10] 3)) = W0 at T2 hgot2 hops ⊢
  have HGOT := Lib.hid hgot2
  have HOPS := Lib.hid hops
  clear hgot2 hops w1
  go_wp2_with fail
  go_loopw [22] (fun s22 wr => ∃ k : Nat, k ≤ 5 ∧ s22 = .int .i64 k ∧ Below W0.heap.size W0 wr) (fun s22 _ => 5 - (intOf s22).toNat)
  case atStart => exact ⟨0, by omega, rfl, Below.refl _ _⟩
  case round =>
    obtain ⟨k, hk, rfl, hlo⟩ := hrel
    by_cases hlt : k < 5
    · have hF := HU.out k hlt
      have hop := HOPS.out k hlt
      have hopc := (hlo.cell (p := ⟨bo, _, none⟩) (World.block_lt_of_cell? W0 _ hop)).trans hop
      have hg := HGOT.out k hlt
      obtain ⟨P, hP⟩ : ∃ P, L.getD k ZR = P := ⟨_, rfl⟩
      rw [hP] at hF hg
      generalize OP5.getD k 0 = op at hF hop hopc
      have HF := Lib.hid hF
      have HGG := Lib.hid hg
      have hk0 : (0 : Int) ≤ (k : Int) := by omega
      have hk1 : (k : Int) < 5 := by omega
      clear hF hop hg hP
      go_upto_region 6 with fail
      have C := rx_new hlo
      clear hopc hlo
      generalize wr.heap.size = g at C ⊢
      generalize wr.alloc zObjP = W at C ⊢
      obtain ⟨⟨a0, a1, a2, af⟩, ⟨b0, b1, b2, bf⟩, -⟩ := T2.below C.lo
      obtain ⟨va0, hva⟩ : ∃ t, a.okB = t := ⟨_, rfl⟩
      have VA0 := Lib.hid fun w => pvalid_is a va0 hva w
      have HVA := Lib.hid hva
      clear hva
      go_wp2_with fail
      refine (VA0.out _).mono ?_
      rintro e1 W1 ⟨rfl, hb⟩
      replace C := C.below hb
      clear a0 a1 a2 af b0 b1 b2 bf hb
      go_upto_if 28 with fail
      obtain ⟨⟨a0, a1, a2, af⟩, ⟨b0, b1, b2, bf⟩, -⟩ := T2.below C.lo
      go_cut [] (fun wx => ∃ wq : World, wq = wx ∧ RX W0 g P wx)
      case first =>
        have ha := HVA.out
        cases va0
        · have e := HF.out.ill ha
          clear ha
          go_wp2_with fail
          go_meet
          exact ⟨_, rfl, by rw [e]; exact C⟩
        · have VA := Lib.hid fun w => pV_row a ha w
          have HR := Lib.hid (HF.out.ref ha)
          clear ha
          go_wp2_with fail
          refine (VA.out _).mono ?_
          rintro e2 W2 ⟨v2, rfl, hv2, hb⟩
          replace C := C.below hb
          clear a0 a1 a2 af b0 b1 b2 bf hb
          go_wp2_with fail
          refine (HR.out _ _ hv2).mono ?_
          rintro e3 W3 ⟨v3, rfl, hv3, hb⟩
          replace C := C.below hb
          clear hb hv2
          go_wp2_with fail
          refine (pB_is P _ _ hv3).mono ?_
          rintro e4 W4 ⟨rfl, hb⟩
          replace C := C.below hb
          clear hb hv3
          obtain ⟨-, ⟨p0, p1, p2, pf⟩, -⟩ := id C
          go_wp2_with fail
          go_meet
          exact ⟨_, rfl, C.put P⟩
      case rest =>
      clear a0 a1 a2 af b0 b1 b2 bf C
      obtain ⟨wq, hwq, C⟩ := hcut
      subst hwq
      obtain ⟨c0, c1, c2⟩ := HGG.out
      have hlt2 : bl < W0.heap.size := World.block_lt_of_cell? W0 _ c0
      replace c0 := (C.lo.cell (p := ⟨bl, _, none⟩) hlt2).trans c0
      replace c1 := (C.lo.cell (p := ⟨bl, _, none⟩) hlt2).trans c1
      replace c2 := (C.lo.cell (p := ⟨bl, _, none⟩) hlt2).trans c2
      obtain ⟨p0, p1, p2, pf⟩ := C.bp
      have gc0 := cell_regrown c0
      have gc1 := cell_regrown c1
      have gc2 := cell_regrown c2
      have gp0 := cell_regrown p0
      have gp1 := cell_regrown p1
      have gp2 := cell_regrown p2
      go_upto_region 8 with fail
      refine wp_region_rel 6 (by kernel_rfl) (by kernel_rfl) ?_
      simp only [List.take_succ_cons, List.take_zero, List.drop_succ_cons, List.drop_zero]
      (refine rel_fix0 (fun K hK => ?_); go_simp; refine hK _ ?_; clear hK K)
      (refine rel_fix0 (fun K hK => ?_); go_simp; refine hK _ ?_; clear hK K)
      (refine rel_fix0 (fun K hK => ?_); go_simp; refine hK _ ?_; clear hK K)
      (refine rel_fix0 (fun K hK => ?_); go_simp; refine hK _ ?_; clear hK K)
      (refine rel_fix0 (fun K hK => ?_); go_simp; refine hK _ ?_; clear hK K)
      (refine rel_fix0 (fun K hK => ?_); go_simp; refine hK _ ?_; clear hK K)
      refine rel_nil ?_
      intro d os
      simp only [relAll]
      have hlo3 : Below W0.heap.size W0 (grow (redrawn _ d) os) := C.lo.trans ((below_regrown _ d os).mono C.lo.size)
      clear gc0 gc1 gc2 gp0 gp1 gp2 c0 c1 c2 p0 p1 p2 pf C
      generalize grow (redrawn _ d) os = W9 at hlo3 ⊢
      go_wp2_with fail
      go_roundw
      case rel => exact ⟨k + 1, by omega, by go_num, hlo3⟩
      case measure => simp [intOf]; omega
    · have T := T2.below hlo
      obtain ⟨⟨a0, a1, a2, af⟩, ⟨b0, b1, b2, bf⟩, lo⟩ := id T
      go_wp2_with fail
      refine (vectors_ok _ (HG.out.here T.lo)).mono ?_
      rintro e w1 ⟨rfl, hb⟩
      replace T := T.below hb
      clear hb a0 a1 a2 af b0 b1 b2 bf lo
      obtain ⟨⟨a0, a1, a2, af⟩, ⟨b0, b1, b2, bf⟩, lo⟩ := id T
      have z0 := T.ba.lt
      have z1 := T.bb.lt
      go_wp2_with fail
      refine (HP.out _ _ ⟨_, _, _, rfl, fun q hq => ?_⟩).mono ?_
      · match q, hq with
        | 0, _ => go_simp
        | 1, _ => go_simp
        | 2, _ => go_simp
        | 3, _ => go_simp
        | 4, _ => go_simp
      rintro e w2 ⟨rfl, hb⟩
      have lo2 : Below w.heap.size w w2 := (lo.alloc lo.size _).trans (hb.mono (lo.alloc lo.size _).size)
      clear hb a0 a1 a2 af b0 b1 b2 bf lo T
      go_wp2_with fail
      go_ret
      exact ⟨rfl, lo2⟩
end Go.Proofs.YtodldcdfdjooaaaGreatDoor
