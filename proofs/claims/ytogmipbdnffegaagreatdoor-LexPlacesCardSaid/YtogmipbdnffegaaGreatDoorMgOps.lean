/- Bit by bit: what the operations on vectors are. No program here.
   The operations of package bits on vectors that are valid: what they return.
   More operations of package bits on vectors that are valid: shifts, comparisons, parts.
   Reading a vector's text: the digits.
   Digits, and parts of vectors. -/
import Derived.Test.YtogmipbdnffegaaGreatDoorVec
import Derived.StillTailTactics
namespace Go.Proofs.YtogmipbdnffegaaGreatDoor
open Go Go.RowKit
set_option linter.unusedVariables false
theorem msk_toNat (n : Nat) (h : n ≤ 64) : (msk n).toNat = 2 ^ n - 1 := by
  have hp : 0 < 2 ^ n := Nat.two_pow_pos n
  unfold msk
  rw [BitVec.toNat_sub, BitVec.toNat_shiftLeft, Nat.shiftLeft_eq]
  rcases Nat.lt_or_eq_of_le h with h | rfl
  · have : 2 ^ n < 2 ^ 64 := Nat.pow_lt_pow_right (by decide) h
    rw [show (1#64).toNat = 1 from rfl, Nat.one_mul, Nat.mod_eq_of_lt this]; omega
  · decide
theorem msk_bit {n : Nat} (h : n ≤ 64) (i : Nat) : (msk n).getLsbD i = decide (i < n) := by
  rw [← BitVec.testBit_toNat, msk_toNat n h, Nat.testBit_two_pow_sub_one]
/-- no bit at or above n -/
def Sub (n : Nat) (o : BitVec 64) : Prop := ∀ i, n ≤ i → o.getLsbD i = false
theorem sub_iff {n : Nat} (h : n ≤ 64) (o : BitVec 64) : Sub n o ↔ o &&& ~~~msk n = 0#64 := by
  constructor
  · intro hs
    apply BitVec.eq_of_getLsbD_eq; intro i hi
    rw [BitVec.getLsbD_and, BitVec.getLsbD_not, msk_bit h]
    by_cases hn : i < n
    · simp [hn]
    · simp [hs i (by omega)]
  · intro he i hi
    by_cases h64 : i < 64
    · have := congrArg (fun b : BitVec 64 => b.getLsbD i) he
      simp only [BitVec.getLsbD_and, BitVec.getLsbD_not, msk_bit h] at this
      simpa [show ¬ i < n by omega, h64] using this
    · exact BitVec.getLsbD_of_ge o i (by omega)
theorem Ok.subv {n : Nat} {V X : BitVec 64} (h : Ok n V X) : Sub n V := (sub_iff h.hi V).2 h.v
theorem Ok.subx {n : Nat} {V X : BitVec 64} (h : Ok n V X) : Sub n X := (sub_iff h.hi X).2 h.x
theorem ok_mk {n : Nat} {V X : BitVec 64} (h1 : 1 ≤ n) (h2 : n ≤ 64) (hv : Sub n V) (hx : Sub n X) : Ok n V X := ⟨h1, h2, (sub_iff h2 V).1 hv, (sub_iff h2 X).1 hx⟩
theorem Vx.same {n : Nat} {a b : Vx} (ha : a.ok n) (hb : b.ok n) (h : ∀ i, i < n → a.v.getLsbD i = b.v.getLsbD i ∧ a.x.getLsbD i = b.x.getLsbD i) : a = b := by
  obtain ⟨v, x⟩ := a
  obtain ⟨v', x'⟩ := b
  congr 1
  · apply BitVec.eq_of_getLsbD_eq; intro i _
    by_cases hn : i < n
    · exact (h i hn).1
    · rw [ha.subv i (by omega), hb.subv i (by omega)]
  · apply BitVec.eq_of_getLsbD_eq; intro i _
    by_cases hn : i < n
    · exact (h i hn).2
    · rw [ha.subx i (by omega), hb.subx i (by omega)]
theorem sub_and {n : Nat} {a b : BitVec 64} (h : Sub n a) : Sub n (a &&& b) := fun i hi => by rw [BitVec.getLsbD_and, h i hi]; rfl
theorem sub_and' {n : Nat} {a b : BitVec 64} (h : Sub n b) : Sub n (a &&& b) := fun i hi => by rw [BitVec.getLsbD_and, h i hi, Bool.and_false]
theorem sub_or {n : Nat} {a b : BitVec 64} (h : Sub n a) (k : Sub n b) : Sub n (a ||| b) := fun i hi => by rw [BitVec.getLsbD_or, h i hi, k i hi]; rfl
theorem sub_xor {n : Nat} {a b : BitVec 64} (h : Sub n a) (k : Sub n b) : Sub n (a ^^^ b) := fun i hi => by rw [BitVec.getLsbD_xor, h i hi, k i hi]; rfl
theorem sub_msk {n : Nat} (h : n ≤ 64) : Sub n (msk n) := fun i hi => by rw [msk_bit h]; simp; omega
theorem sub_zero (n : Nat) : Sub n 0#64 := fun i _ => by simp
theorem sub_one1 {n : Nat} {a : Vx} (h : a.ok n) : Sub n (one1 a) := sub_and h.subv
theorem sub_zero1 {n : Nat} (h : n ≤ 64) (a : Vx) : Sub n (zero1 n a) := sub_and (sub_msk h)
theorem jn_ok {n : Nat} {o z : BitVec 64} (h1 : 1 ≤ n) (h2 : n ≤ 64) (ho : Sub n o) : (jn n o z).ok n :=
  ok_mk h1 h2 (sub_or ho (sub_and (sub_msk h2))) (sub_and (sub_msk h2))
theorem jn_v {n : Nat} {o z : BitVec 64} (h2 : n ≤ 64) {i : Nat} (hi : i < n) : (jn n o z).v.getLsbD i = (o.getLsbD i || !z.getLsbD i) := by
  simp only [jn, unk, BitVec.getLsbD_or, BitVec.getLsbD_and, BitVec.getLsbD_not, msk_bit h2, hi, show i < 64 by omega, decide_true, Bool.true_and]
  cases o.getLsbD i <;> simp
theorem jn_x {n : Nat} {o z : BitVec 64} (h2 : n ≤ 64) {i : Nat} (hi : i < n) : (jn n o z).x.getLsbD i = !(o.getLsbD i || z.getLsbD i) := by
  simp only [jn, unk, BitVec.getLsbD_or, BitVec.getLsbD_and, BitVec.getLsbD_not, msk_bit h2, hi, show i < 64 by omega, decide_true, Bool.true_and]
theorem one1_bit (a : Vx) {i : Nat} (hi : i < 64) : (one1 a).getLsbD i = (a.v.getLsbD i && !a.x.getLsbD i) := by
  simp only [one1, BitVec.getLsbD_and, BitVec.getLsbD_not, hi, decide_true, Bool.true_and]
theorem zero1_bit (a : Vx) {n : Nat} (h : n ≤ 64) {i : Nat} (hi : i < n) : (zero1 n a).getLsbD i = !(a.v.getLsbD i || a.x.getLsbD i) := by
  simp only [zero1, BitVec.getLsbD_and, BitVec.getLsbD_or, BitVec.getLsbD_not, msk_bit h, hi, show i < 64 by omega, decide_true, Bool.true_and]
theorem kv_ok {n : Nat} (h1 : 1 ≤ n) (h2 : n ≤ 64) (v : BitVec 64) : (kv n v).ok n := ok_mk h1 h2 (sub_and' (sub_msk h2)) (sub_zero n)
theorem fl_ok {n : Nat} (h1 : 1 ≤ n) (h2 : n ≤ 64) (k : Nat) : (fl n k).ok n := by
  refine ok_mk h1 h2 ?_ ?_ <;> (simp only [fl]; split) <;> first | exact sub_msk h2 | exact sub_zero n
theorem tr_ok (t : Bool) : (tr t).ok 1 := kv_ok (by decide) (by decide) _
/-- the value of a vector as a condition: 1, 0, or -1 for neither -/
def tru (a : Vx) : Int := if a.v ||| a.x = 0#64 then 0 else if a.v &&& ~~~a.x = 0#64 then -1 else 1
def vnot (n : Nat) (a : Vx) : Vx := jn n (zero1 n a) (one1 a)
def vand (n : Nat) (a b : Vx) : Vx := jn n (one1 a &&& one1 b) (zero1 n a ||| zero1 n b)
def vor (n : Nat) (a b : Vx) : Vx := jn n (one1 a ||| one1 b) (zero1 n a &&& zero1 n b)
def vxor (n : Nat) (a b : Vx) : Vx := jn n (one1 a &&& zero1 n b ||| zero1 n a &&& one1 b) (one1 a &&& one1 b ||| zero1 n a &&& zero1 n b)
def vres (a b : Vx) : Vx := ⟨a.v &&& ~~~free1 a ||| b.v &&& free1 a ||| diff1 a b &&& ~~~(free1 a ||| free1 b), a.x &&& ~~~free1 a ||| b.x &&& free1 a ||| diff1 a b &&& ~~~(free1 a ||| free1 b)⟩
def vcond (n : Nat) (c a b : Vx) : Vx := if tru c = 0 then b else if tru c = 1 then a else jn n (one1 a &&& one1 b) (zero1 n a &&& zero1 n b)
def redor (a : Vx) : Vx := if tru a = 0 then tr false else if tru a = 1 then tr true else fl 1 3
theorem vnot_ok {n : Nat} {a : Vx} (h : a.ok n) : (vnot n a).ok n := jn_ok h.lo h.hi (sub_zero1 h.hi a)
theorem vand_ok {n : Nat} {a b : Vx} (h : a.ok n) : (vand n a b).ok n := jn_ok h.lo h.hi (sub_and (sub_one1 h))
theorem vor_ok {n : Nat} {a b : Vx} (h : a.ok n) (k : b.ok n) : (vor n a b).ok n := jn_ok h.lo h.hi (sub_or (sub_one1 h) (sub_one1 k))
theorem vxor_ok {n : Nat} {a b : Vx} (h : a.ok n) (k : b.ok n) : (vxor n a b).ok n := jn_ok h.lo h.hi (sub_or (sub_and (sub_one1 h)) (sub_and' (sub_one1 k)))
theorem redor_ok (a : Vx) : (redor a).ok 1 := by
  unfold redor; split
  · exact tr_ok _
  · split
    · exact tr_ok _
    · exact fl_ok (by decide) (by decide) 3
theorem vcond_ok {n : Nat} {a b : Vx} (c : Vx) (h : a.ok n) (k : b.ok n) : (vcond n c a b).ok n := by
  unfold vcond; split
  · exact k
  · split
    · exact h
    · exact jn_ok h.lo h.hi (sub_and (sub_one1 h))
theorem vnot_bit {n : Nat} (h : n ≤ 64) (a : Vx) {i : Nat} (hi : i < n) : (vnot n a).v.getLsbD i = (!a.v.getLsbD i || a.x.getLsbD i) ∧ (vnot n a).x.getLsbD i = a.x.getLsbD i := by
  simp only [vnot, jn_v h hi, jn_x h hi, one1_bit a (show i < 64 by omega), zero1_bit a h hi]
  cases a.v.getLsbD i <;> cases a.x.getLsbD i <;> exact ⟨rfl, rfl⟩
theorem vand_bit {n : Nat} (h : n ≤ 64) (a b : Vx) {i : Nat} (hi : i < n) : (vand n a b).v.getLsbD i = ((a.v.getLsbD i || a.x.getLsbD i) && (b.v.getLsbD i || b.x.getLsbD i)) ∧
    (vand n a b).x.getLsbD i = ((a.v.getLsbD i || a.x.getLsbD i) && (b.v.getLsbD i || b.x.getLsbD i) && (a.x.getLsbD i || b.x.getLsbD i)) := by
  simp only [vand, jn_v h hi, jn_x h hi, BitVec.getLsbD_and, BitVec.getLsbD_or, one1_bit a (show i < 64 by omega), one1_bit b (show i < 64 by omega), zero1_bit a h hi, zero1_bit b h hi]
  cases a.v.getLsbD i <;> cases a.x.getLsbD i <;> cases b.v.getLsbD i <;> cases b.x.getLsbD i <;> exact ⟨rfl, rfl⟩
theorem vor_bit {n : Nat} (h : n ≤ 64) (a b : Vx) {i : Nat} (hi : i < n) : (vor n a b).v.getLsbD i = (a.v.getLsbD i || a.x.getLsbD i || b.v.getLsbD i || b.x.getLsbD i) ∧
    (vor n a b).x.getLsbD i = (!(a.v.getLsbD i && !a.x.getLsbD i) && !(b.v.getLsbD i && !b.x.getLsbD i) && (a.x.getLsbD i || b.x.getLsbD i)) := by
  simp only [vor, jn_v h hi, jn_x h hi, BitVec.getLsbD_and, BitVec.getLsbD_or, one1_bit a (show i < 64 by omega), one1_bit b (show i < 64 by omega), zero1_bit a h hi, zero1_bit b h hi]
  cases a.v.getLsbD i <;> cases a.x.getLsbD i <;> cases b.v.getLsbD i <;> cases b.x.getLsbD i <;> exact ⟨rfl, rfl⟩
theorem vxor_bit {n : Nat} (h : n ≤ 64) (a b : Vx) {i : Nat} (hi : i < n) : (vxor n a b).v.getLsbD i = ((a.v.getLsbD i != b.v.getLsbD i) || a.x.getLsbD i || b.x.getLsbD i) ∧
    (vxor n a b).x.getLsbD i = (a.x.getLsbD i || b.x.getLsbD i) := by
  simp only [vxor, jn_v h hi, jn_x h hi, BitVec.getLsbD_and, BitVec.getLsbD_or, one1_bit a (show i < 64 by omega), one1_bit b (show i < 64 by omega), zero1_bit a h hi, zero1_bit b h hi]
  cases a.v.getLsbD i <;> cases a.x.getLsbD i <;> cases b.v.getLsbD i <;> cases b.x.getLsbD i <;> exact ⟨rfl, rfl⟩
end Go.Proofs.YtogmipbdnffegaaGreatDoor
namespace Go.Proofs.YtogmipbdnffegaaGreatDoor
open Go Go.RowKit
set_option linter.unusedVariables false
def vlnot (a : Vx) : Vx := vnot 1 (redor a)
def redand (n : Nat) (a : Vx) : Vx := vnot 1 (redor (vnot n a))
end Go.Proofs.YtogmipbdnffegaaGreatDoor
namespace Go.Proofs.YtogmipbdnffegaaGreatDoor
open Go Go.RowKit
set_option linter.unusedVariables false
/-- the words of a moved up by k -/
def vshl (n : Nat) (a : Vx) (k : Nat) : Vx := ⟨a.v <<< k &&& msk n, a.x <<< k &&& msk n⟩
def unk2 (a b : Vx) : BitVec 64 := a.x ||| b.x
def veq (a b : Vx) : Vx := if diff1 a b &&& ~~~(a.x ||| b.x) = 0#64 then (if a.x ||| b.x = 0#64 then tr true else fl 1 3) else tr false
def ltb (n : Nat) (s : Bool) (a b : Vx) : Bool := if s then (ext n a.v).slt (ext n b.v) else decide (a.v < b.v)
def vlt (n : Nat) (s : Bool) (a b : Vx) : Vx := if a.x = 0#64 ∧ b.x = 0#64 then tr (ltb n s a b) else fl 1 3
theorem vlt_ok (n : Nat) (s : Bool) (a b : Vx) : (vlt n s a b).ok 1 := by
  unfold vlt; split
  · exact tr_ok _
  · exact fl_ok (by decide) (by decide) 3
theorem veq_ok (a b : Vx) : (veq a b).ok 1 := by
  unfold veq; split
  · split
    · exact tr_ok _
    · exact fl_ok (by decide) (by decide) 3
  · exact tr_ok _
end Go.Proofs.YtogmipbdnffegaaGreatDoor
namespace Go.Proofs.YtogmipbdnffegaaGreatDoor
open Go Go.RowKit
set_option linter.unusedVariables false
theorem ret_bool {a b : Bool} (h : a = b) : Ending.returned (.bool a) = .returned (.bool b) := by rw [h]
def dv (c : Nat) : Nat := if 48 ≤ c ∧ c ≤ 57 then c - 48 else if 97 ≤ c ∧ c ≤ 102 then c - 87 else 16
theorem dv_le (c : Nat) : dv c ≤ 16 := by unfold dv; (repeat' split) <;> omega
set_option maxHeartbeats 400000 in
theorem digitValue_any (c : Nat) (hc : c ≤ 255) (w : World) : Calls Tryz.prog 114 #[.int .u8 c] w fun e w' => e = .returned (.int .i64 (dv c)) ∧ w = w' := by
  by_cases h1 : 48 ≤ c ∧ c ≤ 57
  · obtain ⟨a1, a2⟩ := h1
    go_enter Tryz.func114, Tryz.ntmps114
    go_wp2_with fail
    go_ret
    exact ⟨ret_int (by unfold dv; rw [if_pos ⟨a1, a2⟩]; omega), rfl⟩
  · by_cases h2 : 97 ≤ c ∧ c ≤ 102
    · obtain ⟨a1, a2⟩ := h2
      clear h1
      go_enter Tryz.func114, Tryz.ntmps114
      go_wp2_with fail
      go_ret
      exact ⟨ret_int (by unfold dv; rw [if_neg (by omega), if_pos ⟨a1, a2⟩]; omega), rfl⟩
    · have e : dv c = 16 := by unfold dv; rw [if_neg h1, if_neg h2]
      have H := Lib.hid e
      clear e
      go_enter Tryz.func114, Tryz.ntmps114
      go_wp2_with fail
      all_goals
        go_ret
        exact ⟨ret_int (by rw [H.out]; rfl), rfl⟩
def isDig (c : Nat) : Bool := decide (dv c < 10)
set_option maxHeartbeats 400000 in
theorem isDecimal_any (c : Nat) (hc : c ≤ 255) (w : World) : Calls Tryz.prog 111 #[.int .u8 c] w fun e w' => e = .returned (.bool (isDig c)) ∧ w = w' := by
  have hd := dv_le c
  go_enter Tryz.func111, Tryz.ntmps111
  go_wp2_with fail
  refine (digitValue_any c hc _).mono ?_
  rintro e w' ⟨rfl, rfl⟩
  go_wp2_with fail
  go_ret
  exact ⟨ret_bool (by unfold isDig; rw [decide_eq_decide]; omega), rfl⟩
def digOk (size c : Nat) : Bool := c == 120 || c == 122 || decide (dv c < 2 ^ size)
theorem pow_wrap {n : Nat} (h : n ≤ 4) : wrap64 (2 ^ n) = ((2 ^ n : Nat) : Int) := by
  have h5 : n = 0 ∨ n = 1 ∨ n = 2 ∨ n = 3 ∨ n = 4 := by omega
  rcases h5 with rfl | rfl | rfl | rfl | rfl <;> exact (IntWalk.wrap64_in _ (by decide)).trans (by decide)
set_option maxHeartbeats 400000 in
theorem clos_any (c size b : Nat) (hc : c ≤ 255) (hs : size ≤ 4) (w : World) (h : w.cell? ⟨b, 0, none⟩ = some (.int .i64 size)) :
    Calls Tryz.prog 113 #[.int .u8 c, .pointer (some ⟨b, 0, none⟩)] w fun e w' => e = .returned (.bool (digOk size c)) ∧ ∃ n, w' = w.drewN n := by
  have hd := dv_le c
  by_cases h1 : c = 120
  · subst h1
    go_enter Tryz.func113, Tryz.ntmps113
    go_wp2_with fail
    go_quiet (fail)
    go_wp2_with fail
    go_ret
    exact ⟨rfl, nq, rfl⟩
  · by_cases h2 : c = 122
    · subst h2
      go_enter Tryz.func113, Tryz.ntmps113
      go_wp2_with fail
      go_quiet (fail)
      go_wp2_with fail
      go_ret
      exact ⟨rfl, nq, rfl⟩
    · have e1 : ((c : Int) == 120) = false := beq_eq_false_iff_ne.2 (by omega)
      have e2 : ((c : Int) == 122) = false := beq_eq_false_iff_ne.2 (by omega)
      have C1 := Lib.hid h1
      have C2 := Lib.hid h2
      clear h1 h2
      go_enter Tryz.func113, Tryz.ntmps113
      go_wp2_with fail
      go_quiet ((go_at_call 114; exact Calls.quiet_of_same ((digitValue_any c hc _).mono fun _ _ ⟨a, b⟩ => ⟨a, b.symm⟩)))
      go_wp2_with fail
      go_ret
      exact ⟨ret_bool (by unfold digOk; rw [show (c == 120) = false from by simpa using C1.out, show (c == 122) = false from by simpa using C2.out, Bool.false_or, Bool.false_or, decide_eq_decide, pow_wrap hs]; norm_cast), nq, rfl⟩
def allB (f : UInt8 → Bool) (s : ByteArray) : Bool := s.data.toList.all f
theorem all_snoc (f : UInt8 → Bool) (s : ByteArray) (k : Nat) (h : k < s.size) : (s.data.toList.take (k + 1)).all f = ((s.data.toList.take k).all f && f s[k]) := by
  have : s.data.toList.take (k + 1) = s.data.toList.take k ++ [s[k]] := by rw [List.take_succ_eq_append_getElem (by simpa using h)]; rfl
  rw [this, List.all_append]; simp
theorem all_false (f : UInt8 → Bool) (s : ByteArray) (k : Nat) (h : k < s.size) (hf : f s[k] = false) : s.data.toList.all f = false := by
  rw [List.all_eq_false]; exact ⟨s[k], Array.mem_toList_iff.2 (Array.getElem_mem (xs := s.data) h), by simpa using hf⟩
set_option maxHeartbeats 400000 in
theorem every_dec (s : ByteArray) (hs : s.size ≤ 9223372036854775807) (w : World) :
    Calls Tryz.prog 110 #[.string s, .func (.func 111) #[] #[]] w fun e w' => e = .returned (.bool (allB (fun c => isDig c.toNat) s)) ∧ w = w' := by
  go_enter Tryz.func110, Tryz.ntmps110
  go_wp2_with fail
  go_loop [8] (fun i => ∃ k : Nat, k ≤ s.size ∧ i = .int .i64 k ∧ Hid ((s.data.toList.take k).all (fun c => isDig c.toNat) = true)) (fun i => s.size - (intOf i).toNat)
  case atStart => exact ⟨0, Nat.zero_le _, rfl, rfl⟩
  case round =>
    obtain ⟨k, hk, rfl, hall⟩ := hrel
    by_cases hlt : k < s.size
    · have hb : s[k].toNat ≤ 255 := by have := s[k].toNat_lt; omega
      go_wp2_with fail
      refine (isDecimal_any _ hb _).mono ?_
      rintro e w' ⟨rfl, rfl⟩
      by_cases hd : isDig s[k].toNat = true
      · go_wp2_with fail
        go_round
        case rel => exact ⟨k + 1, by omega, by go_num, by show _ = true; rw [all_snoc _ _ _ hlt, hall.out, hd]; rfl⟩
        case measure => simp [intOf]; omega
      · have hd' : isDig s[k].toNat = false := by simpa using hd
        clear hd
        have hz : allB (fun c => isDig c.toNat) s = false := all_false (fun c => isDig c.toNat) s k hlt hd'
        have HZ := Lib.hid hz
        clear hz
        go_wp2_with fail
        go_ret
        exact ⟨ret_bool HZ.out.symm, rfl⟩
    · have hz : allB (fun c => isDig c.toNat) s = true := by
        unfold allB
        have h1 := hall.out
        rwa [List.take_of_length_le (by simp; omega)] at h1
      have HZ := Lib.hid hz
      clear hz
      go_wp2_with fail
      go_ret
      exact ⟨ret_bool HZ.out.symm, rfl⟩
set_option maxHeartbeats 400000 in
theorem every_clos (s : ByteArray) (hs : s.size ≤ 9223372036854775807) (size b : Nat) (hz : size ≤ 4) (w : World) (h : w.cell? ⟨b, 0, none⟩ = some (.int .i64 size)) :
    Calls Tryz.prog 110 #[.string s, .func (.func 113) #[] #[.pointer (some ⟨b, 0, none⟩)]] w fun e w' => e = .returned (.bool (allB (fun c => digOk size c.toNat) s)) ∧ ∃ n, w' = w.drewN n := by
  go_enter Tryz.func110, Tryz.ntmps110
  go_wp2_with fail
  go_loopw [8] (fun i wr => ∃ k : Nat, k ≤ s.size ∧ i = .int .i64 k ∧ Hid ((s.data.toList.take k).all (fun c => digOk size c.toNat) = true) ∧ Hid (∃ n, wr = w.drewN n)) (fun i _ => s.size - (intOf i).toNat)
  case atStart => exact ⟨0, Nat.zero_le _, rfl, rfl, 0, rfl⟩
  case round =>
    obtain ⟨k, hk, rfl, hall, hw⟩ := hrel
    obtain ⟨n, rfl⟩ := hw.out
    have hc : (w.drewN n).cell? ⟨b, 0, none⟩ = some (.int .i64 size) := h
    by_cases hlt : k < s.size
    · have hb : s[k].toNat ≤ 255 := by have := s[k].toNat_lt; omega
      go_wp2_with fail
      refine (clos_any _ size b hb hz _ hc).mono ?_
      rintro e w' ⟨rfl, n', hw'⟩
      subst hw'
      by_cases hd : digOk size s[k].toNat = true
      · go_wp2_with fail
        go_roundw
        case rel => exact ⟨k + 1, by omega, by go_num, by show _ = true; rw [all_snoc _ _ _ hlt, hall.out, hd]; rfl, ⟨n + n', rfl⟩⟩
        case measure => simp [intOf]; omega
      · have hd' : digOk size s[k].toNat = false := by simpa using hd
        clear hd
        have hz' : allB (fun c => digOk size c.toNat) s = false := all_false (fun c => digOk size c.toNat) s k hlt hd'
        have HZ := Lib.hid hz'
        clear hz'
        go_wp2_with fail
        go_ret
        exact ⟨ret_bool HZ.out.symm, ⟨n + n', rfl⟩⟩
    · have hz' : allB (fun c => digOk size c.toNat) s = true := by
        unfold allB
        have h1 := hall.out
        rwa [List.take_of_length_le (by simp; omega)] at h1
      have HZ := Lib.hid hz'
      clear hz'
      go_wp2_with fail
      go_ret
      exact ⟨ret_bool HZ.out.symm, ⟨n, rfl⟩⟩
end Go.Proofs.YtogmipbdnffegaaGreatDoor
namespace Go.Proofs.YtogmipbdnffegaaGreatDoor
open Go Go.RowKit
set_option linter.unusedVariables false
def excB (d : Vx) (room : Int) : Bool := if room ≤ 0 then (d.v ||| d.x) != 0#64 else (d.x == 0#64) && (d.v >>> room.toNat != 0#64)
set_option maxHeartbeats 400000 in
theorem exceeds_any (W : Int) (d : Vx) (room : Int) (hr : room ≤ 64) (w : World) : Calls Tryz.prog 117 #[.agg #[.int .i64 W, .int .u64 (U d.v), .int .u64 (U d.x)], .int .i64 room] w fun e w' => e = .returned (.bool (excB d room)) ∧ Below w.heap.size w w' := by
  by_cases h0 : room ≤ 0
  · go_enter Tryz.func117, Tryz.ntmps117
    go_wp2_with fail
    go_ret
    exact ⟨ret_bool (by unfold excB; rw [if_pos h0]), (Below.refl _ _).alloc (Nat.le_refl _) _⟩
  · obtain ⟨r, rfl⟩ : ∃ r : Nat, room = r := ⟨room.toNat, by omega⟩
    have hr1 : 1 ≤ r := by omega
    have hr2 : r ≤ 64 := by omega
    clear h0 hr
    by_cases hx : d.x = 0#64
    · have hx' : (d.x == 0#64) = true := by simpa using hx
      have HX := Lib.hid hx'
      clear hx
      go_enter Tryz.func117, Tryz.ntmps117
      go_wp2_with fail
      go_ret
      exact ⟨ret_bool (by unfold excB; rw [if_neg (by omega), HX.out, Int.toNat_natCast, Bool.true_and]), (Below.refl _ _).alloc (Nat.le_refl _) _⟩
    · have hx' : (d.x == 0#64) = false := by simpa using hx
      have HX := Lib.hid hx'
      clear hx
      go_enter Tryz.func117, Tryz.ntmps117
      go_wp2_with fail
      go_ret
      exact ⟨ret_bool (by unfold excB; rw [if_neg (by omega), HX.out, Bool.false_and]), (Below.refl _ _).alloc (Nat.le_refl _) _⟩
def dbits (size c : Nat) : Vx := if c = 120 then fl size 3 else if c = 122 then fl size 2 else kv size (BitVec.ofNat 64 (dv c))
theorem dv_U (c : Nat) : ((dv c : Nat) : Int) = U (BitVec.ofNat 64 (dv c)) := by
  have := dv_le c
  unfold U; rw [BitVec.toNat_ofNat, Nat.mod_eq_of_lt (by omega)]
set_option maxHeartbeats 400000 in
theorem digitBits_x (n : Nat) (h1 : 1 ≤ n) (h2 : n ≤ 4) (w : World) : Calls Tryz.prog 116 #[.int .i64 n, .int .u8 120] w fun e w' => e = .returned (.agg #[.int .i64 n, .int .u64 (U (fl n 3).v), .int .u64 (U (fl n 3).x)]) ∧ Below w.heap.size w w' := by
  go_enter Tryz.func116, Tryz.ntmps116
  go_wp2_with fail
  refine (all_x n _ h1 (by omega)).mono ?_
  rintro e w1 ⟨rfl, hb1⟩
  obtain ⟨hc1, hf1⟩ := bcell hb1
  have z1_0 : w.heap.size < w1.heap.size := bsize hb1 (by first | omega | (simp <;> omega))
  go_wp2_with fail
  exact bodyPost_ret (v := .agg #[.int .i64 n, .int .u64 (U (fl n 3).v), .int .u64 (U (fl n 3).x)]) (by simp [results, Tryz.results116, go_sem, hc1] <;> first | rfl | exact ⟨rfl, rfl⟩ | exact ⟨rfl, rfl, rfl⟩) rfl ⟨rfl, by (repeat (first | exact Below.refl _ _ | exact Nat.le_refl _ | refine below_drewN ?_ _ | refine Below.drew ?_ | refine Below.alloc ?_ ?_ _ | refine Below.setCell ?_ ?_ _ | refine below_step (by assumption) ?_ ?_)) <;> (first | omega | (simp <;> omega))⟩
set_option maxHeartbeats 400000 in
theorem digitBits_z (n : Nat) (h1 : 1 ≤ n) (h2 : n ≤ 4) (w : World) : Calls Tryz.prog 116 #[.int .i64 n, .int .u8 122] w fun e w' => e = .returned (.agg #[.int .i64 n, .int .u64 (U (fl n 2).v), .int .u64 (U (fl n 2).x)]) ∧ Below w.heap.size w w' := by
  go_enter Tryz.func116, Tryz.ntmps116
  go_wp2_with fail
  refine (all_z n _ h1 (by omega)).mono ?_
  rintro e w1 ⟨rfl, hb1⟩
  obtain ⟨hc1, hf1⟩ := bcell hb1
  have z1_0 : w.heap.size < w1.heap.size := bsize hb1 (by first | omega | (simp <;> omega))
  go_wp2_with fail
  exact bodyPost_ret (v := .agg #[.int .i64 n, .int .u64 (U (fl n 2).v), .int .u64 (U (fl n 2).x)]) (by simp [results, Tryz.results116, go_sem, hc1] <;> first | rfl | exact ⟨rfl, rfl⟩ | exact ⟨rfl, rfl, rfl⟩) rfl ⟨rfl, by (repeat (first | exact Below.refl _ _ | exact Nat.le_refl _ | refine below_drewN ?_ _ | refine Below.drew ?_ | refine Below.alloc ?_ ?_ _ | refine Below.setCell ?_ ?_ _ | refine below_step (by assumption) ?_ ?_)) <;> (first | omega | (simp <;> omega))⟩
set_option maxHeartbeats 400000 in
theorem digitBits_d (n c : Nat) (h1 : 1 ≤ n) (h2 : n ≤ 4) (hc : c ≤ 255) (w : World) (e1 : ((c : Int) == 120) = false) (e2 : ((c : Int) == 122) = false) : Calls Tryz.prog 116 #[.int .i64 n, .int .u8 c] w fun e w' => e = .returned (.agg #[.int .i64 n, .int .u64 (U (kv n (BitVec.ofNat 64 (dv c))).v), .int .u64 (U (kv n (BitVec.ofNat 64 (dv c))).x)]) ∧ Below w.heap.size w w' := by
  have hd := dv_le c
  go_enter Tryz.func116, Tryz.ntmps116
  go_wp2_with fail
  refine (digitValue_any c hc _).mono ?_
  rintro e w' ⟨rfl, rfl⟩
  go_wp2_with fail
  rw [dv_U]
  refine (of_ok n (BitVec.ofNat 64 (dv c)) _ h1 (by omega)).mono ?_
  rintro e w2 ⟨rfl, hb2⟩
  obtain ⟨hc2, hf2⟩ := bcell hb2
  have z2_0 : w.heap.size < w2.heap.size := bsize hb2 (by first | omega | (simp <;> omega))
  go_wp2_with fail
  exact bodyPost_ret (v := .agg #[.int .i64 n, .int .u64 (U (kv n (BitVec.ofNat 64 (dv c))).v), .int .u64 (U (kv n (BitVec.ofNat 64 (dv c))).x)]) (by simp [results, Tryz.results116, go_sem, hc2] <;> first | rfl | exact ⟨rfl, rfl⟩ | exact ⟨rfl, rfl, rfl⟩) rfl ⟨rfl, by (repeat (first | exact Below.refl _ _ | exact Nat.le_refl _ | refine below_drewN ?_ _ | refine Below.drew ?_ | refine Below.alloc ?_ ?_ _ | refine Below.setCell ?_ ?_ _ | refine below_step (by assumption) ?_ ?_)) <;> (first | omega | (simp <;> omega))⟩
theorem digitBits_any (n c : Nat) (h1 : 1 ≤ n) (h2 : n ≤ 4) (hc : c ≤ 255) (w : World) : Calls Tryz.prog 116 #[.int .i64 n, .int .u8 c] w fun e w' => e = .returned (.agg #[.int .i64 n, .int .u64 (U (dbits n c).v), .int .u64 (U (dbits n c).x)]) ∧ Below w.heap.size w w' := by
  unfold dbits
  by_cases h : c = 120
  · rw [if_pos h]; subst h; exact digitBits_x n h1 h2 w
  · rw [if_neg h]
    by_cases h' : c = 122
    · rw [if_pos h']; subst h'; exact digitBits_z n h1 h2 w
    · rw [if_neg h']; exact digitBits_d n c h1 h2 hc w (beq_eq_false_iff_ne.2 (by omega)) (beq_eq_false_iff_ne.2 (by omega))
theorem dbits_ok {n : Nat} (h1 : 1 ≤ n) (h2 : n ≤ 64) (c : Nat) : (dbits n c).ok n := by
  unfold dbits; split
  · exact fl_ok h1 h2 3
  · split
    · exact fl_ok h1 h2 2
    · exact kv_ok h1 h2 _
def plc (n m k : Nat) : BitVec 64 := msk m <<< k &&& msk n
def vput (n m : Nat) (a : Vx) (k : Nat) (p : Vx) : Vx := ⟨a.v &&& ~~~plc n m k ||| p.v <<< k &&& plc n m k, a.x &&& ~~~plc n m k ||| p.x <<< k &&& plc n m k⟩
theorem vput_ok {n m k : Nat} {a p : Vx} (h : a.ok n) : (vput n m a k p).ok n :=
  ok_mk h.lo h.hi (sub_or (sub_and h.subv) (sub_and' (sub_and' (sub_msk h.hi)))) (sub_or (sub_and h.subx) (sub_and' (sub_and' (sub_msk h.hi))))
theorem up_q (v : BitVec 64) (k : Nat) (w : World) (h : k ≤ 1000000) : Calls Tryz.prog 135 #[.int .u64 (U v), .int .i64 k] w fun e w' => e = .returned (.int .u64 (U (v <<< k))) ∧ w' = w := (up_ok v k w h).mono fun _ _ ⟨a, b⟩ => ⟨a, b.symm⟩
set_option maxRecDepth 100000 in
set_option maxHeartbeats 1000000 in
theorem put_ok (n m k : Nat) (a p : Vx) (w : World) (ha : a.ok n) (hp : p.ok m) (hn : n ≤ 64) (hm : m ≤ 64) (hk : k ≤ 1000000) : Calls Tryz.prog 118 #[.agg #[.int .i64 n, .int .u64 (U a.v), .int .u64 (U a.x)], .int .i64 k, .agg #[.int .i64 m, .int .u64 (U p.v), .int .u64 (U p.x)]] w fun e w' => e = .returned (.agg #[.int .i64 n, .int .u64 (U (vput n m a k p).v), .int .u64 (U (vput n m a k p).x)]) ∧ Below w.heap.size w w' := by
  go_enter Tryz.func118, Tryz.ntmps118
  go_wp2_with fail
  refine (valid_ok n a.v a.x _ ha).mono ?_
  rintro e w1 ⟨rfl, hb1⟩
  obtain ⟨hc1, hf1⟩ := bcell hb1
  have z1_0 : w.heap.size < w1.heap.size := bsize hb1 (by first | omega | (simp <;> omega))
  have z1_1 : w.heap.size + 1 < w1.heap.size := bsize hb1 (by first | omega | (simp <;> omega))
  have z1_2 : w.heap.size + 2 < w1.heap.size := bsize hb1 (by first | omega | (simp <;> omega))
  go_wp2_with fail
  refine (valid_ok m p.v p.x _ hp).mono ?_
  rintro e w2 ⟨rfl, hb2⟩
  obtain ⟨hc2, hf2⟩ := bcell hb2
  have z2_0 : w.heap.size < w2.heap.size := bsize hb2 (by first | omega | (simp <;> omega))
  have z2_1 : w.heap.size + 1 < w2.heap.size := bsize hb2 (by first | omega | (simp <;> omega))
  have z2_2 : w.heap.size + 2 < w2.heap.size := bsize hb2 (by first | omega | (simp <;> omega))
  go_wp2_with fail
  go_quiet (first | (go_at_call 97; exact Calls.quiet_of_same (mask_q _ (by omega) _)) | (go_at_call 135; exact Calls.quiet_of_same (up_q _ _ _ (by omega))))
  go_wp2_with fail
  have hb3 := below_drewN (Below.refl w2.heap.size w2) nq
  generalize w2.drewN nq = w3 at hb3 ⊢
  obtain ⟨hc3, hf3⟩ := bcell hb3
  have z3_0 : w.heap.size < w3.heap.size := bsize hb3 (by first | omega | (simp <;> omega))
  have z3_1 : w.heap.size + 1 < w3.heap.size := bsize hb3 (by first | omega | (simp <;> omega))
  have z3_2 : w.heap.size + 2 < w3.heap.size := bsize hb3 (by first | omega | (simp <;> omega))
  refine wp_region_still_tail 25 (by kernel_rfl) (by kernel_rfl) ?_
  simp only [List.take_succ_cons, List.take_zero, List.drop_succ_cons, List.drop_zero]
  repeat (first | still_step | still_call (up_q _ _ _ (by omega)))
  refine wpStill_nil ?_
  change wpList _ _ _ _ _ (World.drew _)
  go_wp2_with fail
  exact bodyPost_ret (v := .agg #[.int .i64 n, .int .u64 (U (vput n m a k p).v), .int .u64 (U (vput n m a k p).x)]) (by simp [results, Tryz.results118, go_sem, hc1, z1_2, hc2, z2_2, hc3] <;> first | rfl | exact ⟨rfl, rfl⟩ | exact ⟨rfl, rfl, rfl⟩) rfl ⟨rfl, by (repeat (first | exact Below.refl _ _ | exact Nat.le_refl _ | refine below_drewN ?_ _ | refine Below.drew ?_ | refine Below.alloc ?_ ?_ _ | refine Below.setCell ?_ ?_ _ | refine below_step (by assumption) ?_ ?_)) <;> (first | omega | (simp <;> omega))⟩
end Go.Proofs.YtogmipbdnffegaaGreatDoor
