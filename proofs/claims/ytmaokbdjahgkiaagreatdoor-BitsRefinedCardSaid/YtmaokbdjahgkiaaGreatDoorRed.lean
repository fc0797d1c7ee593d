/- The reductions are those of single bits; inverting exchanges And and Or. No program here. -/
import Derived.Test.YtmaokbdjahgkiaaGreatDoorOps2
import Derived.Test.YtmaokbdjahgkiaaGreatDoorPop
namespace Go.Proofs.YtmaokbdjahgkiaaGreatDoor
open Go Go.RowKit
set_option linter.unusedVariables false
/-- bit i of a vector, as a vector -/
def bitv (a : Vx) (i : Nat) : Vx := ⟨a.v >>> i &&& msk 1, a.x >>> i &&& msk 1⟩
def bv1 (v x : Bool) : Vx := ⟨if v then 1#64 else 0#64, if x then 1#64 else 0#64⟩
theorem red_bit1 (a : BitVec 64) (i : Nat) : a >>> i &&& msk 1 = if a.getLsbD i then 1#64 else 0#64 := by
  rw [show msk 1 = 1#64 by decide]
  apply BitVec.eq_of_getLsbD_eq
  intro j hj
  rw [BitVec.getLsbD_and, BitVec.getLsbD_ushiftRight]
  by_cases h0 : j = 0
  · subst h0; cases a.getLsbD i <;> simp
  · have : (1#64).getLsbD j = false := by
      rw [BitVec.getLsbD_one]; simp [h0]
    rw [this, Bool.and_false]
    cases a.getLsbD i <;> simp [this]
theorem bitv_is (a : Vx) (i : Nat) : bitv a i = bv1 (a.v.getLsbD i) (a.x.getLsbD i) := by
  unfold bitv bv1; rw [red_bit1, red_bit1]
theorem bitv_ok (a : Vx) (i : Nat) : (bitv a i).ok 1 := ok_mk (by decide) (by decide) (sub_and' (sub_msk (by decide))) (sub_and' (sub_msk (by decide)))
def fa (a : Vx) : Nat → Vx
  | 0 => fl 1 1
  | i + 1 => vand 1 (fa a i) (bitv a i)
def fo (a : Vx) : Nat → Vx
  | 0 => fl 1 0
  | i + 1 => vor 1 (fo a i) (bitv a i)
def fx (a : Vx) : Nat → Vx
  | 0 => fl 1 0
  | i + 1 => vxor 1 (fx a i) (bitv a i)
theorem fa_ok (a : Vx) : ∀ i, (fa a i).ok 1
  | 0 => fl_ok (by decide) (by decide) 1
  | i + 1 => vand_ok (fa_ok a i)
theorem fo_ok (a : Vx) : ∀ i, (fo a i).ok 1
  | 0 => fl_ok (by decide) (by decide) 0
  | i + 1 => vor_ok (fo_ok a i) (bitv_ok a i)
theorem fx_ok (a : Vx) : ∀ i, (fx a i).ok 1
  | 0 => fl_ok (by decide) (by decide) 0
  | i + 1 => vxor_ok (fx_ok a i) (bitv_ok a i)
def st3 (o z : Bool) : Vx := if o then tr true else if z then fl 1 3 else tr false
def stx (q p : Bool) : Vx := if q then fl 1 3 else tr p
def anyB (f : Nat → Bool) : Nat → Bool
  | 0 => false
  | i + 1 => anyB f i || f i
theorem anyB_iff (f : Nat → Bool) : ∀ n, anyB f n = true ↔ ∃ i, i < n ∧ f i = true
  | 0 => by simp [anyB]
  | n + 1 => by
    unfold anyB
    rw [Bool.or_eq_true, anyB_iff f n]
    constructor
    · rintro (⟨i, h, k⟩ | h)
      · exact ⟨i, by omega, k⟩
      · exact ⟨n, by omega, h⟩
    · rintro ⟨i, h, k⟩
      by_cases e : i = n
      · subst e; exact .inr k
      · exact .inl ⟨i, by omega, k⟩
theorem or_step (o z v x : Bool) : vor 1 (st3 o z) (bv1 v x) = st3 (o || (v && !x)) (z || (v || x)) := by
  cases o <;> cases z <;> cases v <;> cases x <;> kernel_rfl
theorem xor_step (q p v x : Bool) : vxor 1 (stx q p) (bv1 v x) = stx (q || x) (p ^^ v) := by
  cases q <;> cases p <;> cases v <;> cases x <;> kernel_rfl
theorem and_step (o z v x : Bool) : vand 1 (vnot 1 (st3 o z)) (bv1 v x) = vnot 1 (vor 1 (st3 o z) (bv1 (!v || x) x)) := by
  cases o <;> cases z <;> cases v <;> cases x <;> kernel_rfl
def red_oneB (a : Vx) (i : Nat) : Bool := a.v.getLsbD i && !a.x.getLsbD i
def nzB (a : Vx) (i : Nat) : Bool := a.v.getLsbD i || a.x.getLsbD i
theorem fo_is (a : Vx) : ∀ i, fo a i = st3 (anyB (red_oneB a) i) (anyB (nzB a) i)
  | 0 => show fl 1 0 = tr false by kernel_rfl
  | i + 1 => by
    show vor 1 (fo a i) (bitv a i) = _
    rw [fo_is a i, bitv_is, or_step]
    rfl
theorem fx_is (a : Vx) : ∀ i, fx a i = stx (anyB (fun i => a.x.getLsbD i) i) (par a.v i)
  | 0 => show fl 1 0 = tr false by kernel_rfl
  | i + 1 => by
    show vxor 1 (fx a i) (bitv a i) = _
    rw [fx_is a i, bitv_is, xor_step]
    rfl
theorem zero_any {n : Nat} {o : BitVec 64} (h : Sub n o) : (o = 0#64) ↔ ¬ ∃ i, i < n ∧ o.getLsbD i = true := by
  constructor
  · rintro rfl ⟨i, _, k⟩; simp at k
  · intro k
    apply BitVec.eq_of_getLsbD_eq
    intro i hi
    by_cases e : i < n
    · cases q : o.getLsbD i
      · simp
      · exact absurd ⟨i, e, q⟩ k
    · rw [h i (by omega)]; simp
theorem redor_is {n : Nat} {a : Vx} (ha : a.ok n) : redor a = fo a n := by
  have e1 : (a.v ||| a.x = 0#64) ↔ ¬ anyB (nzB a) n = true := by
    rw [zero_any (sub_or ha.subv ha.subx), anyB_iff]
    unfold nzB
    simp only [BitVec.getLsbD_or]
  have e2 : (a.v &&& ~~~a.x = 0#64) ↔ ¬ anyB (red_oneB a) n = true := by
    rw [zero_any (sub_and ha.subv), anyB_iff]
    have : ∀ i, i < n → (a.v &&& ~~~a.x).getLsbD i = red_oneB a i := fun i hi => one1_bit a (by have := ha.hi; omega)
    constructor
    · rintro k ⟨i, hi, h⟩; exact k ⟨i, hi, by rw [this i hi]; exact h⟩
    · rintro k ⟨i, hi, h⟩; exact k ⟨i, hi, by rw [← this i hi]; exact h⟩
  have e3 : anyB (red_oneB a) n = true → anyB (nzB a) n = true := by
    rw [anyB_iff, anyB_iff]
    rintro ⟨i, hi, h⟩
    exact ⟨i, hi, by unfold red_oneB at h; unfold nzB; simp at h; simp [h.1]⟩
  rw [fo_is]
  unfold redor tru st3
  by_cases h0 : a.v ||| a.x = 0#64
  · have z := e1.1 h0
    have o : ¬ anyB (red_oneB a) n = true := fun h => z (e3 h)
    rw [if_pos h0, if_pos rfl, if_neg o, if_neg z]
  · have z : anyB (nzB a) n = true := Classical.byContradiction fun h => h0 (e1.2 h)
    rw [if_neg h0]
    by_cases h1 : a.v &&& ~~~a.x = 0#64
    · rw [if_pos h1, if_neg (by decide), if_neg (by decide), if_neg (e2.1 h1), if_pos z]
    · have o : anyB (red_oneB a) n = true := Classical.byContradiction fun h => h1 (e2.2 h)
      rw [if_neg h1, if_neg (by decide), if_pos rfl, if_pos o]
theorem fa_is {n : Nat} {a : Vx} (hn : n ≤ 64) : ∀ i, i ≤ n → fa a i = vnot 1 (fo (vnot n a) i)
  | 0, _ => show fl 1 1 = vnot 1 (fl 1 0) by kernel_rfl
  | i + 1, h => by
    show vand 1 (fa a i) (bitv a i) = vnot 1 (vor 1 (fo (vnot n a) i) (bitv (vnot n a) i))
    rw [fa_is hn i (by omega), fo_is, bitv_is, bitv_is, and_step, (vnot_bit hn a (show i < n by omega)).1, (vnot_bit hn a (show i < n by omega)).2]
theorem redand_is {n : Nat} {a : Vx} (ha : a.ok n) : redand n a = fa a n := by
  rw [fa_is ha.hi n (Nat.le_refl n)]
  unfold redand
  rw [redor_is (vnot_ok ha)]
theorem par_hi {n : Nat} {o : BitVec 64} (h : Sub n o) : ∀ k, par o (n + k) = par o n
  | 0 => rfl
  | k + 1 => by
    show (par o (n + k) ^^ o.getLsbD (n + k)) = _
    rw [h (n + k) (by omega), par_hi h k, Bool.xor_false]
def vredxor (a : Vx) : Vx := if a.x = 0#64 then tr (par a.v 64) else fl 1 3
theorem redxor_is {n : Nat} {a : Vx} (ha : a.ok n) : vredxor a = fx a n := by
  have hn := ha.hi
  have p : par a.v 64 = par a.v n := by
    have := par_hi ha.subv (64 - n)
    rw [show n + (64 - n) = 64 by omega] at this
    exact this
  have e := zero_any ha.subx
  rw [← anyB_iff (fun i => a.x.getLsbD i)] at e
  rw [fx_is]
  unfold vredxor stx
  rw [p]
  by_cases h : a.x = 0#64
  · rw [if_pos h, if_neg (e.1 h)]
  · rw [if_neg h, if_pos (Classical.byContradiction fun k => h (e.2 k))]
theorem dual1 {n : Nat} {a b : Vx} (ha : a.ok n) (hb : b.ok n) : vnot n (vand n a b) = vor n (vnot n a) (vnot n b) := by
  have h := ha.hi
  refine Vx.same (vnot_ok (vand_ok ha)) (vor_ok (vnot_ok ha) (vnot_ok hb)) fun i hi => ?_
  simp only [(vnot_bit h _ hi).1, (vnot_bit h _ hi).2, (vand_bit h _ _ hi).1, (vand_bit h _ _ hi).2, (vor_bit h _ _ hi).1, (vor_bit h _ _ hi).2]
  cases a.v.getLsbD i <;> cases a.x.getLsbD i <;> cases b.v.getLsbD i <;> cases b.x.getLsbD i <;> decide
theorem dual2 {n : Nat} {a b : Vx} (ha : a.ok n) (hb : b.ok n) : vnot n (vxor n a b) = vxor n (vnot n a) b := by
  have h := ha.hi
  refine Vx.same (vnot_ok (vxor_ok ha hb)) (vxor_ok (vnot_ok ha) hb) fun i hi => ?_
  simp only [(vnot_bit h _ hi).1, (vnot_bit h _ hi).2, (vxor_bit h _ _ hi).1, (vxor_bit h _ _ hi).2]
  cases a.v.getLsbD i <;> cases a.x.getLsbD i <;> cases b.v.getLsbD i <;> cases b.x.getLsbD i <;> decide
end Go.Proofs.YtmaokbdjahgkiaaGreatDoor
