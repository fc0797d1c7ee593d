/- The numbers of lists of known states: sums, differences, what Count finds. No condition. -/
import Derived.Test.YtodldcdfdjooaaaGreatDoorRefParts
import Derived.Test.YtodldcdfdjooaaaGreatDoorArith2
namespace Go.Proofs.YtodldcdfdjooaaaGreatDoor
open Go Go.RowKit Go.Sort
set_option linter.unusedVariables false
/-- the number of the first k states -/
def num (l : List UInt8) : Nat → Nat
  | 0 => 0
  | k + 1 => num l k + if l.getD k 0 = 49 then 2 ^ k else 0
def hiD (l : List UInt8) : Nat → Nat
  | 0 => 0
  | j + 1 => 2 * hiD l j + if l.getD (l.length - 1 - j) 0 = 49 then 1 else 0
theorem cntD_hi (l : List UInt8) (lim : Nat) : ∀ j, cntD l lim j = min (hiD l j) lim
  | 0 => by show 0 = min 0 lim; omega
  | j + 1 => by
    show min (2 * cntD l lim j + _) lim = min (2 * hiD l j + _) lim
    rw [cntD_hi l lim j]
    split <;> omega
theorem hi_num (l : List UInt8) : ∀ j, j ≤ l.length → hiD l j * 2 ^ (l.length - j) + num l (l.length - j) = num l l.length
  | 0, _ => by show 0 * _ + num l (l.length - 0) = _; rw [Nat.zero_mul, Nat.zero_add]; rfl
  | j + 1, h => by
    have ih := hi_num l j (by omega)
    have e : l.length - j = (l.length - (j + 1)) + 1 := by omega
    rw [e] at ih
    have e2 : l.length - 1 - j = l.length - (j + 1) := by omega
    show (2 * hiD l j + if l.getD (l.length - 1 - j) 0 = 49 then 1 else 0) * _ + _ = _
    rw [e2, ← ih]
    show _ = hiD l j * 2 ^ (l.length - (j + 1) + 1) + (num l (l.length - (j + 1)) + if l.getD (l.length - (j + 1)) 0 = 49 then 2 ^ (l.length - (j + 1)) else 0)
    generalize l.length - (j + 1) = q
    rw [Nat.pow_succ]
    split
    · rw [Nat.add_mul, Nat.one_mul, Nat.mul_comm 2, Nat.mul_assoc, Nat.mul_comm 2]; omega
    · rw [Nat.add_zero, Nat.add_zero, Nat.mul_comm 2, Nat.mul_assoc, Nat.mul_comm 2]
theorem cnt_num (l : List UInt8) (lim : Nat) : cntD l lim l.length = min (num l l.length) lim := by
  rw [cntD_hi]
  have := hi_num l l.length (Nat.le_refl _)
  rw [Nat.sub_self, Nat.pow_zero, Nat.mul_one] at this
  have h0 : num l 0 = 0 := rfl
  rw [h0] at this
  rw [← this]; rfl
theorem num_lt (l : List UInt8) : ∀ k, num l k < 2 ^ k
  | 0 => by show 0 < 1; omega
  | k + 1 => by
    have := num_lt l k
    show num l k + _ < 2 ^ (k + 1)
    rw [Nat.pow_succ]
    split <;> omega
theorem num_vl {q : Nat} {c : Vx} (hc : c.ok q) (hx : c.x = 0#64) : num (vl c q) q = c.v.toNat := by
  have key : ∀ k, k ≤ q → num (vl c q) k = c.v.toNat % 2 ^ k := by
    intro k
    induction k with
    | zero => intro _; show 0 = _; rw [Nat.pow_zero, Nat.mod_one]
    | succ k ih =>
      intro hk
      show num (vl c q) k + _ = _
      rw [ih (by omega), vl_get c q k (by omega), Nat.mod_pow_succ]
      have e : (st c k = 49) ↔ c.v.getLsbD k = true := by
        unfold st; rw [hx]; cases c.v.getLsbD k <;> simp
      have e2 : c.v.toNat / 2 ^ k % 2 = if c.v.getLsbD k = true then 1 else 0 := by
        rw [← BitVec.testBit_toNat, Nat.testBit_eq_decide_div_mod_eq]
        have := Nat.mod_two_eq_zero_or_one (c.v.toNat / 2 ^ k)
        rcases this with h | h <;> simp [h]
      rw [e2]
      by_cases b : c.v.getLsbD k = true
      · rw [if_pos (e.2 b), if_pos b, Nat.mul_one]
      · rw [if_neg (fun h => b (e.1 h)), if_neg b, Nat.mul_zero]
  rw [key q (Nat.le_refl _)]
  have h64 := hc.hi
  have hs := and_msk_toNat h64 c.v
  have : c.v &&& msk q = c.v := by
    apply BitVec.eq_of_getLsbD_eq
    intro i hi
    rw [BitVec.getLsbD_and, msk_bit h64]
    by_cases h : i < q
    · simp [h]
    · rw [hc.subv i (by omega)]; simp
  rw [this] at hs
  exact hs.symm
def bit1 (x : UInt8) : Nat := if x = 49 then 1 else 0
theorem add_bits {x y c : UInt8} (hx : x = 48 ∨ x = 49) (hy : y = 48 ∨ y = 49) (hc : c = 48 ∨ c = 49) : bit1 (xorB (xorB x y) c) + 2 * bit1 (orB (andB x y) (andB c (xorB x y))) = bit1 x + bit1 y + bit1 c ∧ (orB (andB x y) (andB c (xorB x y)) = 48 ∨ orB (andB x y) (andB c (xorB x y)) = 49) := by
  rcases hx with rfl | rfl <;> rcases hy with rfl | rfl <;> rcases hc with rfl | rfl <;> simp [bit1, xorB, orB, andB, notB]
theorem getD_last (L : List UInt8) (z : UInt8) : (L ++ [z]).getD L.length 0 = z := by
  rw [List.getD_eq_getElem?_getD, List.getElem?_append_right (Nat.le_refl _), Nat.sub_self]; rfl
theorem getD_first (L : List UInt8) (z : UInt8) {i : Nat} (h : i < L.length) : (L ++ [z]).getD i 0 = L.getD i 0 := by
  rw [List.getD_eq_getElem?_getD, List.getElem?_append_left h, ← List.getD_eq_getElem?_getD]
theorem sumK_succ (l m : List UInt8) (c : UInt8) (k : Nat) : sumK l m c (k + 1) = sumK l m c k ++ [xorB (xorB (l.getD k 0) (m.getD k 0)) (carK l m c k)] := rfl
theorem sumK_get (l m : List UInt8) (c : UInt8) (k : Nat) : ∀ i, i < k → (sumK l m c k).getD i 0 = xorB (xorB (l.getD i 0) (m.getD i 0)) (carK l m c i) := by
  induction k with
  | zero => intro i h; omega
  | succ k ih =>
    intro i h
    rw [sumK_succ]
    by_cases e : i = k
    · have h9 := getD_last (sumK l m c k) (xorB (xorB (l.getD k 0) (m.getD k 0)) (carK l m c k))
      rw [sumK_len] at h9
      rw [e]; exact h9
    · rw [getD_first _ _ (by rw [sumK_len]; omega)]
      exact ih i (by omega)
theorem num_same {l m : List UInt8} : ∀ k, (∀ i, i < k → l.getD i 0 = m.getD i 0) → num l k = num m k
  | 0, _ => rfl
  | k + 1, h => by
    show num l k + _ = num m k + _
    rw [num_same k (fun i hi => h i (by omega)), h k (by omega)]
theorem num_step (l : List UInt8) (k : Nat) : num l (k + 1) = num l k + bit1 (l.getD k 0) * 2 ^ k := by
  show num l k + _ = _
  unfold bit1; split <;> simp
theorem plus_num {l m : List UInt8} {c : UInt8} (hl : ∀ i, i < l.length → l.getD i 0 = 48 ∨ l.getD i 0 = 49) (hm : ∀ i, i < l.length → m.getD i 0 = 48 ∨ m.getD i 0 = 49) (hc : c = 48 ∨ c = 49) :
    ∀ k, k ≤ l.length → num (sumK l m c k) k + bit1 (carK l m c k) * 2 ^ k = num l k + num m k + bit1 c ∧ (carK l m c k = 48 ∨ carK l m c k = 49)
  | 0, _ => ⟨by show 0 + bit1 c * 2 ^ 0 = 0 + 0 + bit1 c; omega, hc⟩
  | k + 1, h => by
    obtain ⟨ih, hcar⟩ := plus_num hl hm hc k (by omega)
    obtain ⟨hb, hn⟩ := add_bits (hl k (by omega)) (hm k (by omega)) hcar
    refine ⟨?_, hn⟩
    have e1 : num (sumK l m c (k + 1)) (k + 1) = num (sumK l m c k) k + bit1 (xorB (xorB (l.getD k 0) (m.getD k 0)) (carK l m c k)) * 2 ^ k := by
      rw [num_step, sumK_get l m c (k + 1) k (by omega), num_same k (l := sumK l m c (k + 1)) (m := sumK l m c k) (fun i hi => by rw [sumK_get l m c (k + 1) i (by omega), sumK_get l m c k i hi])]
    rw [e1, num_step, num_step]
    have e2 : carK l m c (k + 1) = orB (andB (l.getD k 0) (m.getD k 0)) (andB (carK l m c k) (xorB (l.getD k 0) (m.getD k 0))) := rfl
    rw [e2]
    generalize bit1 (xorB (xorB (l.getD k 0) (m.getD k 0)) (carK l m c k)) = o at hb ⊢
    generalize bit1 (orB (andB (l.getD k 0) (m.getD k 0)) (andB (carK l m c k) (xorB (l.getD k 0) (m.getD k 0)))) = q at hb ⊢
    generalize bit1 (l.getD k 0) = x at hb ⊢
    generalize bit1 (m.getD k 0) = y at hb ⊢
    generalize bit1 (carK l m c k) = z at hb ih
    rw [Nat.pow_succ]
    generalize 2 ^ k = p at ih ⊢
    have h3 : (o + 2 * q) * p = (x + y + z) * p := by rw [hb]
    rw [Nat.add_mul, Nat.add_mul, Nat.add_mul, Nat.mul_assoc] at h3
    have h4 : q * (p * 2) = 2 * (q * p) := by rw [Nat.mul_comm p 2, ← Nat.mul_assoc, Nat.mul_comm q 2, Nat.mul_assoc]
    rw [h4]; omega
theorem num_zero (n : Nat) : ∀ k, num (List.replicate n 48) k = 0
  | 0 => rfl
  | k + 1 => by
    rw [num_step, num_zero n k]
    have : bit1 ((List.replicate n 48).getD k 0) = 0 := by
      rw [List.getD_eq_getElem?_getD, List.getElem?_replicate]
      split <;> decide
    rw [this]; omega
theorem num_not {l : List UInt8} (hl : ∀ i, i < l.length → l.getD i 0 = 48 ∨ l.getD i 0 = 49) : ∀ k, k ≤ l.length → num (l.map notB) k + num l k + 1 = 2 ^ k
  | 0, _ => rfl
  | k + 1, h => by
    have ih := num_not hl k (by omega)
    have e : (l.map notB).getD k 0 = notB (l.getD k 0) := by
      rw [getD_at (by rw [List.length_map]; omega), getD_at (by omega), List.getElem_map]
    rw [num_step, num_step, e, Nat.pow_succ]
    have hb : bit1 (notB (l.getD k 0)) + bit1 (l.getD k 0) = 1 := by rcases hl k (by omega) with h | h <;> rw [h] <;> decide
    generalize bit1 (notB (l.getD k 0)) = x at hb ⊢
    generalize bit1 (l.getD k 0) = y at hb ⊢
    generalize 2 ^ k = p at ih ⊢
    have h3 : (x + y) * p = 1 * p := by rw [hb]
    rw [Nat.add_mul] at h3
    omega
theorem not_known {l : List UInt8} (hl : ∀ i, i < l.length → l.getD i 0 = 48 ∨ l.getD i 0 = 49) : ∀ i, i < l.length → (l.map notB).getD i 0 = 48 ∨ (l.map notB).getD i 0 = 49 := by
  intro i hi
  have e : (l.map notB).getD i 0 = notB (l.getD i 0) := by
    rw [getD_at (by rw [List.length_map]; omega), getD_at hi, List.getElem_map]
  rw [e]
  rcases hl i hi with h | h <;> rw [h] <;> decide
/-- the negated number -/
theorem neg_num {l : List UInt8} (hl : ∀ i, i < l.length → l.getD i 0 = 48 ∨ l.getD i 0 = 49) (h0 : 0 < num l l.length) : num (sumK (List.replicate l.length 48) (l.map notB) 49 l.length) l.length = 2 ^ l.length - num l l.length := by
  have hz : ∀ i, i < (List.replicate l.length (48 : UInt8)).length → (List.replicate l.length (48 : UInt8)).getD i 0 = 48 ∨ (List.replicate l.length (48 : UInt8)).getD i 0 = 49 := by
    intro i hi
    rw [getD_at hi, List.getElem_replicate]; exact .inl rfl
  have hp := (plus_num (l := List.replicate l.length 48) (m := l.map notB) (c := 49) hz (fun i hi => not_known hl i (by simpa using hi)) (.inr rfl) l.length (by simp)).1
  rw [num_zero] at hp
  have hn := num_not hl l.length (Nat.le_refl _)
  have hlt := num_lt (sumK (List.replicate l.length 48) (l.map notB) 49 l.length) l.length
  have hb : bit1 (49 : UInt8) = 1 := by decide
  rw [hb] at hp
  generalize num (sumK (List.replicate l.length 48) (l.map notB) 49 l.length) l.length = s at hp hlt ⊢
  have hc : bit1 (carK (List.replicate l.length 48) (l.map notB) 49 l.length) = 0 ∨ bit1 (carK (List.replicate l.length 48) (l.map notB) 49 l.length) = 1 := by unfold bit1; split <;> simp
  rcases hc with hc | hc <;> rw [hc] at hp <;> omega
theorem known_vl {n : Nat} {a : Vx} (ha : a.ok n) : knownL (vl a n) = (a.x == 0#64) := by
  rw [zero_all _ n ha.hi (fun i hi => ha.subx i hi)]
  unfold knownL vl
  rw [List.all_map]
  apply all_same
  intro i hi
  show (st a i == 48 || st a i == 49) = _
  unfold st
  cases a.v.getLsbD i <;> cases a.x.getLsbD i <;> decide
theorem known_row {n : Nat} {a : Vx} (ha : a.ok n) (t : Bool) (ht : (a.x == 0#64) = t) (v : Value) (w : World) (h : Row8 w v (vl a n)) :
    Calls Tryz.prog 90 #[v] w fun e w' => e = .returned (.bool t) ∧ w = w' := by
  have := refKnown_any v (vl a n) (by rw [vl_len]; have := ha.hi; omega) w h
  rwa [known_vl ha, ht] at this
end Go.Proofs.YtodldcdfdjooaaaGreatDoor
