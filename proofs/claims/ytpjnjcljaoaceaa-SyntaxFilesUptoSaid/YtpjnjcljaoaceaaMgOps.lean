/- Bit by bit: what the operations on vectors are. No program here.
   The operations of package bits on vectors that are valid: what they return.
   More operations of package bits on vectors that are valid: shifts, comparisons, parts.
   Reading a vector's text: the digits.
   Digits, and parts of vectors. -/
import Derived.Test.YtpjnjcljaoaceaaVec
import Derived.StillTailTactics
namespace Go.Proofs.Ytpjnjcljaoaceaa
open Go Go.RowKit
set_option linter.unusedVariables false
theorem msk_toNat (n : Nat) (h : n ≤ 64) : (msk n).toNat = 2 ^ n - 1 := by
  have hp : 0 < 2 ^ n := Nat.two_pow_pos n
  unfold msk
  rw [BitVec.toNat_sub, BitVec.toNat_shiftLeft, Nat.shiftLeft_eq]
  rcases Nat.lt_or_eq_of_le h with h | rfl
  · have : 2 ^ n < 2 ^ 64 := Nat.pow_lt_pow_right (by decide) h
    rw [show (1#64).toNat = 1 from rfl, Nat.one_mul, Nat.mod_eq_of_lt this]; omega
  · decide
theorem msk_bit {n : Nat} (h : n ≤ 64) (i : Nat) : (msk n).getLsbD i = decide (i < n) := by
  rw [← BitVec.testBit_toNat, msk_toNat n h, Nat.testBit_two_pow_sub_one]
/-- no bit at or above n -/
def Sub (n : Nat) (o : BitVec 64) : Prop := ∀ i, n ≤ i → o.getLsbD i = false
theorem sub_iff {n : Nat} (h : n ≤ 64) (o : BitVec 64) : Sub n o ↔ o &&& ~~~msk n = 0#64 := by
  constructor
  · intro hs
    apply BitVec.eq_of_getLsbD_eq; intro i hi
    rw [BitVec.getLsbD_and, BitVec.getLsbD_not, msk_bit h]
    by_cases hn : i < n
    · simp [hn]
    · simp [hs i (by omega)]
  · intro he i hi
    by_cases h64 : i < 64
    · have := congrArg (fun b : BitVec 64 => b.getLsbD i) he
      simp only [BitVec.getLsbD_and, BitVec.getLsbD_not, msk_bit h] at this
      simpa [show ¬ i < n by omega, h64] using this
    · exact BitVec.getLsbD_of_ge o i (by omega)
theorem Ok.subv {n : Nat} {V X : BitVec 64} (h : Ok n V X) : Sub n V := (sub_iff h.hi V).2 h.v
theorem Ok.subx {n : Nat} {V X : BitVec 64} (h : Ok n V X) : Sub n X := (sub_iff h.hi X).2 h.x
theorem ok_mk {n : Nat} {V X : BitVec 64} (h1 : 1 ≤ n) (h2 : n ≤ 64) (hv : Sub n V) (hx : Sub n X) : Ok n V X := ⟨h1, h2, (sub_iff h2 V).1 hv, (sub_iff h2 X).1 hx⟩
theorem Vx.same {n : Nat} {a b : Vx} (ha : a.ok n) (hb : b.ok n) (h : ∀ i, i < n → a.v.getLsbD i = b.v.getLsbD i ∧ a.x.getLsbD i = b.x.getLsbD i) : a = b := by
  obtain ⟨v, x⟩ := a
  obtain ⟨v', x'⟩ := b
  congr 1
  · apply BitVec.eq_of_getLsbD_eq; intro i _
    by_cases hn : i < n
    · exact (h i hn).1
    · rw [ha.subv i (by omega), hb.subv i (by omega)]
  · apply BitVec.eq_of_getLsbD_eq; intro i _
    by_cases hn : i < n
    · exact (h i hn).2
    · rw [ha.subx i (by omega), hb.subx i (by omega)]
theorem sub_and {n : Nat} {a b : BitVec 64} (h : Sub n a) : Sub n (a &&& b) := fun i hi => by rw [BitVec.getLsbD_and, h i hi]; rfl
theorem sub_and' {n : Nat} {a b : BitVec 64} (h : Sub n b) : Sub n (a &&& b) := fun i hi => by rw [BitVec.getLsbD_and, h i hi, Bool.and_false]
theorem sub_or {n : Nat} {a b : BitVec 64} (h : Sub n a) (k : Sub n b) : Sub n (a ||| b) := fun i hi => by rw [BitVec.getLsbD_or, h i hi, k i hi]; rfl
theorem sub_xor {n : Nat} {a b : BitVec 64} (h : Sub n a) (k : Sub n b) : Sub n (a ^^^ b) := fun i hi => by rw [BitVec.getLsbD_xor, h i hi, k i hi]; rfl
theorem sub_msk {n : Nat} (h : n ≤ 64) : Sub n (msk n) := fun i hi => by rw [msk_bit h]; simp; omega
theorem sub_zero (n : Nat) : Sub n 0#64 := fun i _ => by simp
theorem sub_one1 {n : Nat} {a : Vx} (h : a.ok n) : Sub n (one1 a) := sub_and h.subv
theorem sub_zero1 {n : Nat} (h : n ≤ 64) (a : Vx) : Sub n (zero1 n a) := sub_and (sub_msk h)
theorem jn_ok {n : Nat} {o z : BitVec 64} (h1 : 1 ≤ n) (h2 : n ≤ 64) (ho : Sub n o) : (jn n o z).ok n :=
  ok_mk h1 h2 (sub_or ho (sub_and (sub_msk h2))) (sub_and (sub_msk h2))
theorem jn_v {n : Nat} {o z : BitVec 64} (h2 : n ≤ 64) {i : Nat} (hi : i < n) : (jn n o z).v.getLsbD i = (o.getLsbD i || !z.getLsbD i) := by
  simp only [jn, unk, BitVec.getLsbD_or, BitVec.getLsbD_and, BitVec.getLsbD_not, msk_bit h2, hi, show i < 64 by omega, decide_true, Bool.true_and]
  cases o.getLsbD i <;> simp
theorem jn_x {n : Nat} {o z : BitVec 64} (h2 : n ≤ 64) {i : Nat} (hi : i < n) : (jn n o z).x.getLsbD i = !(o.getLsbD i || z.getLsbD i) := by
  simp only [jn, unk, BitVec.getLsbD_or, BitVec.getLsbD_and, BitVec.getLsbD_not, msk_bit h2, hi, show i < 64 by omega, decide_true, Bool.true_and]
theorem one1_bit (a : Vx) {i : Nat} (hi : i < 64) : (one1 a).getLsbD i = (a.v.getLsbD i && !a.x.getLsbD i) := by
  simp only [one1, BitVec.getLsbD_and, BitVec.getLsbD_not, hi, decide_true, Bool.true_and]
theorem zero1_bit (a : Vx) {n : Nat} (h : n ≤ 64) {i : Nat} (hi : i < n) : (zero1 n a).getLsbD i = !(a.v.getLsbD i || a.x.getLsbD i) := by
  simp only [zero1, BitVec.getLsbD_and, BitVec.getLsbD_or, BitVec.getLsbD_not, msk_bit h, hi, show i < 64 by omega, decide_true, Bool.true_and]
theorem kv_ok {n : Nat} (h1 : 1 ≤ n) (h2 : n ≤ 64) (v : BitVec 64) : (kv n v).ok n := ok_mk h1 h2 (sub_and' (sub_msk h2)) (sub_zero n)
theorem fl_ok {n : Nat} (h1 : 1 ≤ n) (h2 : n ≤ 64) (k : Nat) : (fl n k).ok n := by
  refine ok_mk h1 h2 ?_ ?_ <;> (simp only [fl]; split) <;> first | exact sub_msk h2 | exact sub_zero n
theorem tr_ok (t : Bool) : (tr t).ok 1 := kv_ok (by decide) (by decide) _
/-- the value of a vector as a condition: 1, 0, or -1 for neither -/
def tru (a : Vx) : Int := if a.v ||| a.x = 0#64 then 0 else if a.v &&& ~~~a.x = 0#64 then -1 else 1
def vnot (n : Nat) (a : Vx) : Vx := jn n (zero1 n a) (one1 a)
def vand (n : Nat) (a b : Vx) : Vx := jn n (one1 a &&& one1 b) (zero1 n a ||| zero1 n b)
def vor (n : Nat) (a b : Vx) : Vx := jn n (one1 a ||| one1 b) (zero1 n a &&& zero1 n b)
def vxor (n : Nat) (a b : Vx) : Vx := jn n (one1 a &&& zero1 n b ||| zero1 n a &&& one1 b) (one1 a &&& one1 b ||| zero1 n a &&& zero1 n b)
def vres (a b : Vx) : Vx := ⟨a.v &&& ~~~free1 a ||| b.v &&& free1 a ||| diff1 a b &&& ~~~(free1 a ||| free1 b), a.x &&& ~~~free1 a ||| b.x &&& free1 a ||| diff1 a b &&& ~~~(free1 a ||| free1 b)⟩
def vcond (n : Nat) (c a b : Vx) : Vx := if tru c = 0 then b else if tru c = 1 then a else jn n (one1 a &&& one1 b) (zero1 n a &&& zero1 n b)
def redor (a : Vx) : Vx := if tru a = 0 then tr false else if tru a = 1 then tr true else fl 1 3
theorem vnot_ok {n : Nat} {a : Vx} (h : a.ok n) : (vnot n a).ok n := jn_ok h.lo h.hi (sub_zero1 h.hi a)
theorem vand_ok {n : Nat} {a b : Vx} (h : a.ok n) : (vand n a b).ok n := jn_ok h.lo h.hi (sub_and (sub_one1 h))
theorem vor_ok {n : Nat} {a b : Vx} (h : a.ok n) (k : b.ok n) : (vor n a b).ok n := jn_ok h.lo h.hi (sub_or (sub_one1 h) (sub_one1 k))
theorem vxor_ok {n : Nat} {a b : Vx} (h : a.ok n) (k : b.ok n) : (vxor n a b).ok n := jn_ok h.lo h.hi (sub_or (sub_and (sub_one1 h)) (sub_and' (sub_one1 k)))
theorem redor_ok (a : Vx) : (redor a).ok 1 := by
  unfold redor; split
  · exact tr_ok _
  · split
    · exact tr_ok _
    · exact fl_ok (by decide) (by decide) 3
theorem vcond_ok {n : Nat} {a b : Vx} (c : Vx) (h : a.ok n) (k : b.ok n) : (vcond n c a b).ok n := by
  unfold vcond; split
  · exact k
  · split
    · exact h
    · exact jn_ok h.lo h.hi (sub_and (sub_one1 h))
theorem vnot_bit {n : Nat} (h : n ≤ 64) (a : Vx) {i : Nat} (hi : i < n) : (vnot n a).v.getLsbD i = (!a.v.getLsbD i || a.x.getLsbD i) ∧ (vnot n a).x.getLsbD i = a.x.getLsbD i := by
  simp only [vnot, jn_v h hi, jn_x h hi, one1_bit a (show i < 64 by omega), zero1_bit a h hi]
  cases a.v.getLsbD i <;> cases a.x.getLsbD i <;> exact ⟨rfl, rfl⟩
theorem vand_bit {n : Nat} (h : n ≤ 64) (a b : Vx) {i : Nat} (hi : i < n) : (vand n a b).v.getLsbD i = ((a.v.getLsbD i || a.x.getLsbD i) && (b.v.getLsbD i || b.x.getLsbD i)) ∧
    (vand n a b).x.getLsbD i = ((a.v.getLsbD i || a.x.getLsbD i) && (b.v.getLsbD i || b.x.getLsbD i) && (a.x.getLsbD i || b.x.getLsbD i)) := by
  simp only [vand, jn_v h hi, jn_x h hi, BitVec.getLsbD_and, BitVec.getLsbD_or, one1_bit a (show i < 64 by omega), one1_bit b (show i < 64 by omega), zero1_bit a h hi, zero1_bit b h hi]
  cases a.v.getLsbD i <;> cases a.x.getLsbD i <;> cases b.v.getLsbD i <;> cases b.x.getLsbD i <;> exact ⟨rfl, rfl⟩
theorem vor_bit {n : Nat} (h : n ≤ 64) (a b : Vx) {i : Nat} (hi : i < n) : (vor n a b).v.getLsbD i = (a.v.getLsbD i || a.x.getLsbD i || b.v.getLsbD i || b.x.getLsbD i) ∧
    (vor n a b).x.getLsbD i = (!(a.v.getLsbD i && !a.x.getLsbD i) && !(b.v.getLsbD i && !b.x.getLsbD i) && (a.x.getLsbD i || b.x.getLsbD i)) := by
  simp only [vor, jn_v h hi, jn_x h hi, BitVec.getLsbD_and, BitVec.getLsbD_or, one1_bit a (show i < 64 by omega), one1_bit b (show i < 64 by omega), zero1_bit a h hi, zero1_bit b h hi]
  cases a.v.getLsbD i <;> cases a.x.getLsbD i <;> cases b.v.getLsbD i <;> cases b.x.getLsbD i <;> exact ⟨rfl, rfl⟩
theorem vxor_bit {n : Nat} (h : n ≤ 64) (a b : Vx) {i : Nat} (hi : i < n) : (vxor n a b).v.getLsbD i = ((a.v.getLsbD i != b.v.getLsbD i) || a.x.getLsbD i || b.x.getLsbD i) ∧
    (vxor n a b).x.getLsbD i = (a.x.getLsbD i || b.x.getLsbD i) := by
  simp only [vxor, jn_v h hi, jn_x h hi, BitVec.getLsbD_and, BitVec.getLsbD_or, one1_bit a (show i < 64 by omega), one1_bit b (show i < 64 by omega), zero1_bit a h hi, zero1_bit b h hi]
  cases a.v.getLsbD i <;> cases a.x.getLsbD i <;> cases b.v.getLsbD i <;> cases b.x.getLsbD i <;> exact ⟨rfl, rfl⟩
end Go.Proofs.Ytpjnjcljaoaceaa
namespace Go.Proofs.Ytpjnjcljaoaceaa
open Go Go.RowKit
set_option linter.unusedVariables false
def vlnot (a : Vx) : Vx := vnot 1 (redor a)
def redand (n : Nat) (a : Vx) : Vx := vnot 1 (redor (vnot n a))
end Go.Proofs.Ytpjnjcljaoaceaa
namespace Go.Proofs.Ytpjnjcljaoaceaa
open Go Go.RowKit
set_option linter.unusedVariables false
/-- the words of a moved up by k -/
def vshl (n : Nat) (a : Vx) (k : Nat) : Vx := ⟨a.v <<< k &&& msk n, a.x <<< k &&& msk n⟩
def unk2 (a b : Vx) : BitVec 64 := a.x ||| b.x
def veq (a b : Vx) : Vx := if diff1 a b &&& ~~~(a.x ||| b.x) = 0#64 then (if a.x ||| b.x = 0#64 then tr true else fl 1 3) else tr false
def ltb (n : Nat) (s : Bool) (a b : Vx) : Bool := if s then (ext n a.v).slt (ext n b.v) else decide (a.v < b.v)
def vlt (n : Nat) (s : Bool) (a b : Vx) : Vx := if a.x = 0#64 ∧ b.x = 0#64 then tr (ltb n s a b) else fl 1 3
theorem vlt_ok (n : Nat) (s : Bool) (a b : Vx) : (vlt n s a b).ok 1 := by
  unfold vlt; split
  · exact tr_ok _
  · exact fl_ok (by decide) (by decide) 3
theorem veq_ok (a b : Vx) : (veq a b).ok 1 := by
  unfold veq; split
  · split
    · exact tr_ok _
    · exact fl_ok (by decide) (by decide) 3
  · exact tr_ok _
end Go.Proofs.Ytpjnjcljaoaceaa
namespace Go.Proofs.Ytpjnjcljaoaceaa
open Go Go.RowKit
set_option linter.unusedVariables false
theorem ret_bool {a b : Bool} (h : a = b) : Ending.returned (.bool a) = .returned (.bool b) := by rw [h]
def dv (c : Nat) : Nat := if 48 ≤ c ∧ c ≤ 57 then c - 48 else if 97 ≤ c ∧ c ≤ 102 then c - 87 else 16
theorem dv_le (c : Nat) : dv c ≤ 16 := by unfold dv; (repeat' split) <;> omega
def isDig (c : Nat) : Bool := decide (dv c < 10)
def digOk (size c : Nat) : Bool := c == 120 || c == 122 || decide (dv c < 2 ^ size)
theorem pow_wrap {n : Nat} (h : n ≤ 4) : wrap64 (2 ^ n) = ((2 ^ n : Nat) : Int) := by
  have h5 : n = 0 ∨ n = 1 ∨ n = 2 ∨ n = 3 ∨ n = 4 := by omega
  rcases h5 with rfl | rfl | rfl | rfl | rfl <;> exact (IntWalk.wrap64_in _ (by decide)).trans (by decide)
def allB (f : UInt8 → Bool) (s : ByteArray) : Bool := s.data.toList.all f
theorem all_snoc (f : UInt8 → Bool) (s : ByteArray) (k : Nat) (h : k < s.size) : (s.data.toList.take (k + 1)).all f = ((s.data.toList.take k).all f && f s[k]) := by
  have : s.data.toList.take (k + 1) = s.data.toList.take k ++ [s[k]] := by rw [List.take_succ_eq_append_getElem (by simpa using h)]; rfl
  rw [this, List.all_append]; simp
theorem all_false (f : UInt8 → Bool) (s : ByteArray) (k : Nat) (h : k < s.size) (hf : f s[k] = false) : s.data.toList.all f = false := by
  rw [List.all_eq_false]; exact ⟨s[k], Array.mem_toList_iff.2 (Array.getElem_mem (xs := s.data) h), by simpa using hf⟩
end Go.Proofs.Ytpjnjcljaoaceaa
namespace Go.Proofs.Ytpjnjcljaoaceaa
open Go Go.RowKit
set_option linter.unusedVariables false
def excB (d : Vx) (room : Int) : Bool := if room ≤ 0 then (d.v ||| d.x) != 0#64 else (d.x == 0#64) && (d.v >>> room.toNat != 0#64)
def dbits (size c : Nat) : Vx := if c = 120 then fl size 3 else if c = 122 then fl size 2 else kv size (BitVec.ofNat 64 (dv c))
theorem dv_U (c : Nat) : ((dv c : Nat) : Int) = U (BitVec.ofNat 64 (dv c)) := by
  have := dv_le c
  unfold U; rw [BitVec.toNat_ofNat, Nat.mod_eq_of_lt (by omega)]
theorem dbits_ok {n : Nat} (h1 : 1 ≤ n) (h2 : n ≤ 64) (c : Nat) : (dbits n c).ok n := by
  unfold dbits; split
  · exact fl_ok h1 h2 3
  · split
    · exact fl_ok h1 h2 2
    · exact kv_ok h1 h2 _
def plc (n m k : Nat) : BitVec 64 := msk m <<< k &&& msk n
def vput (n m : Nat) (a : Vx) (k : Nat) (p : Vx) : Vx := ⟨a.v &&& ~~~plc n m k ||| p.v <<< k &&& plc n m k, a.x &&& ~~~plc n m k ||| p.x <<< k &&& plc n m k⟩
theorem vput_ok {n m k : Nat} {a p : Vx} (h : a.ok n) : (vput n m a k p).ok n :=
  ok_mk h.lo h.hi (sub_or (sub_and h.subv) (sub_and' (sub_and' (sub_msk h.hi)))) (sub_or (sub_and h.subx) (sub_and' (sub_and' (sub_msk h.hi))))
end Go.Proofs.Ytpjnjcljaoaceaa
