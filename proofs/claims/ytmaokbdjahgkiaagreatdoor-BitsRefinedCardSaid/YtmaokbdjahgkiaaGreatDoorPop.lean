/- The parity of the number of ones, in numbers. -/
import Derived.WalkKit
namespace Go.Proofs.YtmaokbdjahgkiaaGreatDoor
/-- a bit of parity -/
def par (a : BitVec 64) : Nat → Bool
  | 0 => false
  | i + 1 => par a i ^^ a.getLsbD i
theorem land_dig (y z m k : Nat) (hy : y < 256) (hm : m < 256) : (y + 256 * z) &&& (m + 256 * k) = (y &&& m) + 256 * (z &&& k) := by
  have e1 : ((y + 256 * z) &&& (m + 256 * k)) % 2 ^ 8 = y &&& m := by
    rw [Nat.and_mod_two_pow]; congr 1 <;> omega
  have e2 : ((y + 256 * z) &&& (m + 256 * k)) / 2 ^ 8 = z &&& k := by
    rw [Nat.and_div_two_pow]; congr 1 <;> omega
  omega
/-- one step over all bytes: `d` is the divisor -/
def s1 (y : Nat) : Nat := (y / 2 &&& 85) + (y &&& 85)
def s2 (y : Nat) : Nat := (y / 4 &&& 51) + (y &&& 51)
def s3 (y : Nat) : Nat := (y / 16 + y) &&& 15
def G (m d x : Nat) : Nat := (x / d &&& m) + (x &&& m)
theorem c1 : ∀ y, y < 256 → ∀ e, e < 2 → ((y / 2 + 128 * e) &&& 85) = (y / 2 &&& 85) := by decide +kernel
theorem c2 : ∀ y, y < 256 → ∀ e, e < 4 → ((y / 4 + 64 * e) &&& 51) = (y / 4 &&& 51) := by decide +kernel
theorem c3 : ∀ y, y < 256 → s1 y < 256 ∧ s2 (s1 y) < 256 ∧ s2 (s1 y) / 16 ≤ 4 ∧ s2 (s1 y) % 16 ≤ 4 ∧ s3 (s2 (s1 y)) ≤ 8 := by decide +kernel
theorem c4 : ∀ y, y < 256 → ∀ e, e ≤ 4 → ((s2 (s1 y) / 16 + s2 (s1 y) + 16 * e) &&& 15) = s3 (s2 (s1 y)) := by decide +kernel
theorem step1 (y z k : Nat) (hy : y < 256) : G (85 + 256 * k) 2 (y + 256 * z) = s1 y + 256 * G k 2 z := by
  have e : (y + 256 * z) / 2 = (y / 2 + 128 * (z % 2)) + 256 * (z / 2) := by omega
  unfold G s1
  rw [e, land_dig _ _ _ _ (by omega) (by omega), land_dig _ _ _ _ hy (by omega), c1 y hy _ (by omega)]
  omega
theorem step2 (y z k : Nat) (hy : y < 256) : G (51 + 256 * k) 4 (y + 256 * z) = s2 y + 256 * G k 4 z := by
  have e : (y + 256 * z) / 4 = (y / 4 + 64 * (z % 4)) + 256 * (z / 4) := by omega
  unfold G s2
  rw [e, land_dig _ _ _ _ (by omega) (by omega), land_dig _ _ _ _ hy (by omega), c2 y hy _ (by omega)]
  omega
def H (m x : Nat) : Nat := (x / 16 + x) &&& m
theorem step3 (y z k : Nat) (hy : y < 256) (hz : z % 16 ≤ 4) : H (15 + 256 * k) (s2 (s1 y) + 256 * z) = s3 (s2 (s1 y)) + 256 * H k z := by
  have ⟨_, b, c, d, _⟩ := c3 y hy
  have e : (s2 (s1 y) + 256 * z) / 16 + (s2 (s1 y) + 256 * z) = (s2 (s1 y) / 16 + s2 (s1 y) + 16 * (z % 16)) + 256 * (z / 16 + z) := by omega
  unfold H
  rw [e, land_dig _ _ _ _ (by omega) (by omega), c4 y hy _ hz]
/-- the mask of `n` bytes `b` -/
def mk (b : Nat) : Nat → Nat
  | 0 => 0
  | n + 1 => b + 256 * mk b n
/-- the number whose bytes are `f` of the bytes of `x` -/
def by_ (f : Nat → Nat) : Nat → Nat → Nat
  | 0, _ => 0
  | n + 1, x => f (x % 256) + 256 * by_ f n (x / 256)
theorem g1 : ∀ (n x : Nat), x < 256 ^ n → G (mk 85 n) 2 x = by_ s1 n x
  | 0, x, h => by have : x = 0 := by simpa using h
                  subst this; rfl
  | n + 1, x, h => by
    have h' : x / 256 < 256 ^ n := by rw [Nat.pow_succ] at h; omega
    have := step1 (x % 256) (x / 256) (mk 85 n) (by omega)
    rw [show x % 256 + 256 * (x / 256) = x by omega] at this
    show G (85 + 256 * mk 85 n) 2 x = s1 (x % 256) + 256 * by_ s1 n (x / 256)
    rw [this, g1 n _ h']
theorem by_mod (f g : Nat → Nat) (hf : ∀ y, y < 256 → f y < 256) : ∀ (n x : Nat), by_ g n (by_ f n x) = by_ (fun y => g (f y)) n x
  | 0, _ => rfl
  | n + 1, x => by
    have := hf (x % 256) (by omega)
    show g ((f (x % 256) + 256 * by_ f n (x / 256)) % 256) + 256 * by_ g n ((f (x % 256) + 256 * by_ f n (x / 256)) / 256) = g (f (x % 256)) + 256 * by_ (fun y => g (f y)) n (x / 256)
    rw [show (f (x % 256) + 256 * by_ f n (x / 256)) % 256 = f (x % 256) by omega, show (f (x % 256) + 256 * by_ f n (x / 256)) / 256 = by_ f n (x / 256) by omega, by_mod f g hf n]
theorem by_lt (f : Nat → Nat) (hf : ∀ y, y < 256 → f y < 256) : ∀ (n x : Nat), by_ f n x < 256 ^ n
  | 0, _ => by simp [by_]
  | n + 1, x => by
    have := hf (x % 256) (by omega)
    have h := by_lt f hf n (x / 256)
    show f (x % 256) + 256 * by_ f n (x / 256) < 256 ^ (n + 1)
    rw [Nat.pow_succ]; omega
theorem g2 : ∀ (n x : Nat), x < 256 ^ n → G (mk 51 n) 4 x = by_ s2 n x
  | 0, x, h => by have : x = 0 := by simpa using h
                  subst this; rfl
  | n + 1, x, h => by
    have h' : x / 256 < 256 ^ n := by rw [Nat.pow_succ] at h; omega
    have := step2 (x % 256) (x / 256) (mk 51 n) (by omega)
    rw [show x % 256 + 256 * (x / 256) = x by omega] at this
    show G (51 + 256 * mk 51 n) 4 x = s2 (x % 256) + 256 * by_ s2 n (x / 256)
    rw [this, g2 n _ h']
def s12 (y : Nat) : Nat := s2 (s1 y)
def s123 (y : Nat) : Nat := s3 (s2 (s1 y))
theorem by_low : ∀ (n x : Nat), by_ s12 n x % 16 ≤ 4
  | 0, _ => by simp [by_]
  | n + 1, x => by
    have ⟨_, b, c, d, _⟩ := c3 (x % 256) (by omega)
    show (s12 (x % 256) + 256 * by_ s12 n (x / 256)) % 16 ≤ 4
    unfold s12 at *; omega
theorem g3 : ∀ (n x : Nat), H (mk 15 n) (by_ s12 n x) = by_ s123 n x
  | 0, x => by simp [H, mk, by_]
  | n + 1, x => by
    have := step3 (x % 256) (by_ s12 n (x / 256)) (mk 15 n) (by omega) (by_low n _)
    show H (15 + 256 * mk 15 n) (s2 (s1 (x % 256)) + 256 * by_ s12 n (x / 256)) = s3 (s2 (s1 (x % 256))) + 256 * by_ s123 n (x / 256)
    rw [this, g3 n]
theorem g123 (x : Nat) (h : x < 256 ^ 8) : H (mk 15 8) (G (mk 51 8) 4 (G (mk 85 8) 2 x)) = by_ s123 8 x := by
  rw [g1 8 x h, g2 8 _ (by_lt s1 (fun y hy => (c3 y hy).1) 8 x), by_mod s1 s2 (fun y hy => (c3 y hy).1) 8 x]
  exact g3 8 x
/-- the last three steps -/
theorem fold8 (a0 a1 a2 a3 a4 a5 a6 a7 x y z u : Nat) (h0 : a0 ≤ 8) (h1 : a1 ≤ 8) (h2 : a2 ≤ 8) (h3 : a3 ≤ 8) (h4 : a4 ≤ 8) (h5 : a5 ≤ 8) (h6 : a6 ≤ 8) (h7 : a7 ≤ 8)
    (hx : x = a0 + 256 * (a1 + 256 * (a2 + 256 * (a3 + 256 * (a4 + 256 * (a5 + 256 * (a6 + 256 * a7)))))))
    (hy : y = (x + x / 256) % 2 ^ 64) (hz : z = (y + y / 2 ^ 16) % 2 ^ 64) (hu : u = (z + z / 2 ^ 32) % 2 ^ 64) : u % 128 = a0 + a1 + a2 + a3 + a4 + a5 + a6 + a7 := by
  have dx : x / 256 = a1 + 256 * (a2 + 256 * (a3 + 256 * (a4 + 256 * (a5 + 256 * (a6 + 256 * a7))))) := by omega
  have ey : y = (a0 + a1) + 256 * ((a1 + a2) + 256 * ((a2 + a3) + 256 * ((a3 + a4) + 256 * ((a4 + a5) + 256 * ((a5 + a6) + 256 * ((a6 + a7) + 256 * a7)))))) := by
    rw [hy, dx, hx, Nat.mod_eq_of_lt (by omega)]; omega
  clear hy dx hx
  have dy : y / 2 ^ 16 = (a2 + a3) + 256 * ((a3 + a4) + 256 * ((a4 + a5) + 256 * ((a5 + a6) + 256 * ((a6 + a7) + 256 * a7)))) := by omega
  have ez : z = (a0 + a1 + a2 + a3) + 256 * ((a1 + a2 + a3 + a4) + 256 * ((a2 + a3 + a4 + a5) + 256 * ((a3 + a4 + a5 + a6) + 256 * ((a4 + a5 + a6 + a7) + 256 * ((a5 + a6 + a7) + 256 * ((a6 + a7) + 256 * a7)))))) := by
    rw [hz, dy, ey, Nat.mod_eq_of_lt (by omega)]; omega
  clear hz dy ey
  have dz : z / 2 ^ 32 = (a4 + a5 + a6 + a7) + 256 * ((a5 + a6 + a7) + 256 * ((a6 + a7) + 256 * a7)) := by omega
  rw [dz, ez] at hu
  clear dz ez
  rw [Nat.mod_eq_of_lt (by clear hu; omega)] at hu
  omega
/-- the parity of a byte -/
def pb (y : Nat) : Bool := y.testBit 0 ^^ y.testBit 1 ^^ y.testBit 2 ^^ y.testBit 3 ^^ y.testBit 4 ^^ y.testBit 5 ^^ y.testBit 6 ^^ y.testBit 7
theorem pb_is : ∀ y, y < 256 → pb y = decide (s123 y % 2 = 1) := by decide +kernel
theorem s123_le (y : Nat) (h : y < 256) : s123 y ≤ 8 := (c3 y h).2.2.2.2
theorem odd_add (a b : Nat) : decide ((a + b) % 2 = 1) = (decide (a % 2 = 1) ^^ decide (b % 2 = 1)) := by
  have h1 : a % 2 = 0 ∨ a % 2 = 1 := by omega
  have h2 : b % 2 = 0 ∨ b % 2 = 1 := by omega
  rcases h1 with h1 | h1 <;> rcases h2 with h2 | h2 <;> simp [h1, h2, Nat.add_mod]
theorem par8 (a : BitVec 64) (j : Nat) : par a (8 * j + 8) = (par a (8 * j) ^^ pb (a.toNat / 256 ^ j % 256)) := by
  have e : ∀ i, i < 8 → (a.toNat / 256 ^ j % 256).testBit i = a.getLsbD (8 * j + i) := by
    intro i hi
    rw [show (256 : Nat) ^ j = 2 ^ (8 * j) by rw [Nat.pow_mul], show (256 : Nat) = 2 ^ 8 from rfl, Nat.testBit_mod_two_pow, Nat.testBit_div_two_pow, BitVec.getLsbD]
    simp [hi]
    rw [Nat.add_comm]
  show (((((((((par a (8 * j) ^^ a.getLsbD (8 * j)) ^^ a.getLsbD (8 * j + 1)) ^^ a.getLsbD (8 * j + 2)) ^^ a.getLsbD (8 * j + 3)) ^^ a.getLsbD (8 * j + 4)) ^^ a.getLsbD (8 * j + 5)) ^^ a.getLsbD (8 * j + 6)) ^^ a.getLsbD (8 * j + 7))) = _
  unfold pb
  rw [e 0 (by decide), e 1 (by decide), e 2 (by decide), e 3 (by decide), e 4 (by decide), e 5 (by decide), e 6 (by decide), e 7 (by decide)]
  simp only [Bool.xor_assoc, Nat.add_zero]
theorem par_sum (a : BitVec 64) : ∀ k, par a (8 * k) = decide ((List.range k).foldl (fun s j => s + s123 (a.toNat / 256 ^ j % 256)) 0 % 2 = 1)
  | 0 => rfl
  | k + 1 => by
    rw [List.range_succ, List.foldl_append]
    show par a (8 * k + 8) = decide (((List.range k).foldl _ 0 + s123 (a.toNat / 256 ^ k % 256)) % 2 = 1)
    rw [par8, par_sum a k, odd_add, pb_is _ (by omega)]
/-- the low bit of the number of ones is the parity -/
theorem pop_par (a : BitVec 64) (x y z u : Nat) (hx : x = H (mk 15 8) (G (mk 51 8) 4 (G (mk 85 8) 2 a.toNat)))
    (hy : y = (x + x / 256) % 2 ^ 64) (hz : z = (y + y / 2 ^ 16) % 2 ^ 64) (hu : u = (z + z / 2 ^ 32) % 2 ^ 64) : decide (u % 128 % 2 = 1) = par a 64 := by
  have hl : ∀ j, s123 (a.toNat / 256 ^ j % 256) ≤ 8 := fun j => s123_le _ (by omega)
  have h := fold8 _ _ _ _ _ _ _ _ x y z u (hl 0) (hl 1) (hl 2) (hl 3) (hl 4) (hl 5) (hl 6) (hl 7) (by
    rw [hx, g123 _ a.isLt]
    simp only [by_, Nat.div_div_eq_div_mul, Nat.pow_zero, Nat.div_one, Nat.mul_zero, Nat.add_zero]) hy hz hu
  rw [h]
  refine Eq.trans ?_ (par_sum a 8).symm
  simp only [List.range_succ, List.range_zero, List.nil_append, List.cons_append, List.foldl_cons, List.foldl_nil, Nat.zero_add]
end Go.Proofs.YtmaokbdjahgkiaaGreatDoor
