/- Sums and lists of noughts of the reference, as numbers; Count. -/
import Derived.Test.YtogmipbdnffegaaGreatDoorMgRefs
import Derived.Test.YtogmipbdnffegaaGreatDoorMgDec
import Derived.Test.YtogmipbdnffegaaGreatDoorMgRel
import Derived.Deep.RegionLaw
import Derived.Deep.AppendLies
namespace Go.Proofs.YtogmipbdnffegaaGreatDoor
open Go Go.RowKit Go.Sort
set_option linter.unusedVariables false
def notB (x : UInt8) : UInt8 := if x = 48 then 49 else if x = 49 then 48 else 120
def andB (x y : UInt8) : UInt8 := if x = 48 ∨ y = 48 then 48 else if x = 49 ∧ y = 49 then 49 else 120
def orB (x y : UInt8) : UInt8 := notB (andB (notB x) (notB y))
def xorB (x y : UInt8) : UInt8 := orB (andB x (notB y)) (andB (notB x) y)
/-- the carry behind k states -/
def carK (l m : List UInt8) (c : UInt8) : Nat → UInt8
  | 0 => c
  | k + 1 => orB (andB (l.getD k 0) (m.getD k 0)) (andB (carK l m c k) (xorB (l.getD k 0) (m.getD k 0)))
/-- the sum's first k states -/
def sumK (l m : List UInt8) (c : UInt8) : Nat → List UInt8
  | 0 => []
  | k + 1 => sumK l m c k ++ [xorB (xorB (l.getD k 0) (m.getD k 0)) (carK l m c k)]
theorem sumK_len (l m : List UInt8) (c : UInt8) : ∀ k, (sumK l m c k).length = k
  | 0 => rfl
  | k + 1 => by show (sumK l m c k ++ _).length = _; rw [List.length_append, sumK_len l m c k]; rfl
theorem getD_at {l : List UInt8} {k : Nat} (h : k < l.length) : l.getD k 0 = l[k] := by rw [List.getD_eq_getElem?_getD, List.getElem?_eq_getElem h]; rfl
/-- what Count has found in the highest j states -/
def cntD (l : List UInt8) (lim : Nat) : Nat → Nat
  | 0 => 0
  | j + 1 => min (2 * cntD l lim j + if l.getD (l.length - 1 - j) 0 = 49 then 1 else 0) lim
theorem cntD_le (l : List UInt8) (lim : Nat) : ∀ j, cntD l lim j ≤ lim
  | 0 => Nat.zero_le _
  | j + 1 => Nat.min_le_right _ _
theorem row_nth {w : World} {a : Option Addr} {m cap : Nat} {l : List UInt8} (h : Row8 w (.slice a m cap) l) {k : Nat} (hk : k < l.length) : ∃ bl off, a = some ⟨bl, off, none⟩ ∧ m = l.length ∧ ∀ q (hq : q < l.length), w.cell? ⟨bl, off + q, none⟩ = some (.int .u8 (l[q].toNat : Int)) := by
  obtain ⟨a', c, he, h0 | ⟨b, o, ha, hc⟩⟩ := h.sh
  · omega
  · injection he with e1 e2 e3
    exact ⟨b, o, e1.trans ha, e2, hc⟩
theorem and_msk_toNat {n : Nat} (h : n ≤ 64) (v : BitVec 64) : (v &&& msk n).toNat = v.toNat % 2 ^ n := by
  rw [BitVec.toNat_and, msk_toNat n h, Nat.and_two_pow_sub_one_eq_mod]
/-- the number of the first k states -/
def num (l : List UInt8) : Nat → Nat
  | 0 => 0
  | k + 1 => num l k + if l.getD k 0 = 49 then 2 ^ k else 0
def hiD (l : List UInt8) : Nat → Nat
  | 0 => 0
  | j + 1 => 2 * hiD l j + if l.getD (l.length - 1 - j) 0 = 49 then 1 else 0
theorem cntD_hi (l : List UInt8) (lim : Nat) : ∀ j, cntD l lim j = min (hiD l j) lim
  | 0 => by show 0 = min 0 lim; omega
  | j + 1 => by
    show min (2 * cntD l lim j + _) lim = min (2 * hiD l j + _) lim
    rw [cntD_hi l lim j]
    split <;> omega
theorem hi_num (l : List UInt8) : ∀ j, j ≤ l.length → hiD l j * 2 ^ (l.length - j) + num l (l.length - j) = num l l.length
  | 0, _ => by show 0 * _ + num l (l.length - 0) = _; rw [Nat.zero_mul, Nat.zero_add]; rfl
  | j + 1, h => by
    have ih := hi_num l j (by omega)
    have e : l.length - j = (l.length - (j + 1)) + 1 := by omega
    rw [e] at ih
    have e2 : l.length - 1 - j = l.length - (j + 1) := by omega
    show (2 * hiD l j + if l.getD (l.length - 1 - j) 0 = 49 then 1 else 0) * _ + _ = _
    rw [e2, ← ih]
    show _ = hiD l j * 2 ^ (l.length - (j + 1) + 1) + (num l (l.length - (j + 1)) + if l.getD (l.length - (j + 1)) 0 = 49 then 2 ^ (l.length - (j + 1)) else 0)
    generalize l.length - (j + 1) = q
    rw [Nat.pow_succ]
    split
    · rw [Nat.add_mul, Nat.one_mul, Nat.mul_comm 2, Nat.mul_assoc, Nat.mul_comm 2]; omega
    · rw [Nat.add_zero, Nat.add_zero, Nat.mul_comm 2, Nat.mul_assoc, Nat.mul_comm 2]
theorem cnt_num (l : List UInt8) (lim : Nat) : cntD l lim l.length = min (num l l.length) lim := by
  rw [cntD_hi]
  have := hi_num l l.length (Nat.le_refl _)
  rw [Nat.sub_self, Nat.pow_zero, Nat.mul_one] at this
  have h0 : num l 0 = 0 := rfl
  rw [h0] at this
  rw [← this]; rfl
theorem num_lt (l : List UInt8) : ∀ k, num l k < 2 ^ k
  | 0 => by show 0 < 1; omega
  | k + 1 => by
    have := num_lt l k
    show num l k + _ < 2 ^ (k + 1)
    rw [Nat.pow_succ]
    split <;> omega
theorem num_vl {q : Nat} {c : Vx} (hc : c.ok q) (hx : c.x = 0#64) : num (vl c q) q = c.v.toNat := by
  have key : ∀ k, k ≤ q → num (vl c q) k = c.v.toNat % 2 ^ k := by
    intro k
    induction k with
    | zero => intro _; show 0 = _; rw [Nat.pow_zero, Nat.mod_one]
    | succ k ih =>
      intro hk
      show num (vl c q) k + _ = _
      rw [ih (by omega), vl_get c q k (by omega), Nat.mod_pow_succ]
      have e : (st c k = 49) ↔ c.v.getLsbD k = true := by
        unfold st; rw [hx]; cases c.v.getLsbD k <;> simp
      have e2 : c.v.toNat / 2 ^ k % 2 = if c.v.getLsbD k = true then 1 else 0 := by
        rw [← BitVec.testBit_toNat, Nat.testBit_eq_decide_div_mod_eq]
        have := Nat.mod_two_eq_zero_or_one (c.v.toNat / 2 ^ k)
        rcases this with h | h <;> simp [h]
      rw [e2]
      by_cases b : c.v.getLsbD k = true
      · rw [if_pos (e.2 b), if_pos b, Nat.mul_one]
      · rw [if_neg (fun h => b (e.1 h)), if_neg b, Nat.mul_zero]
  rw [key q (Nat.le_refl _)]
  have h64 := hc.hi
  have hs := and_msk_toNat h64 c.v
  have : c.v &&& msk q = c.v := by
    apply BitVec.eq_of_getLsbD_eq
    intro i hi
    rw [BitVec.getLsbD_and, msk_bit h64]
    by_cases h : i < q
    · simp [h]
    · rw [hc.subv i (by omega)]; simp
  rw [this] at hs
  exact hs.symm
def bit1 (x : UInt8) : Nat := if x = 49 then 1 else 0
theorem add_bits {x y c : UInt8} (hx : x = 48 ∨ x = 49) (hy : y = 48 ∨ y = 49) (hc : c = 48 ∨ c = 49) : bit1 (xorB (xorB x y) c) + 2 * bit1 (orB (andB x y) (andB c (xorB x y))) = bit1 x + bit1 y + bit1 c ∧ (orB (andB x y) (andB c (xorB x y)) = 48 ∨ orB (andB x y) (andB c (xorB x y)) = 49) := by
  rcases hx with rfl | rfl <;> rcases hy with rfl | rfl <;> rcases hc with rfl | rfl <;> simp [bit1, xorB, orB, andB, notB]
theorem getD_last (L : List UInt8) (z : UInt8) : (L ++ [z]).getD L.length 0 = z := by
  rw [List.getD_eq_getElem?_getD, List.getElem?_append_right (Nat.le_refl _), Nat.sub_self]; rfl
theorem getD_first (L : List UInt8) (z : UInt8) {i : Nat} (h : i < L.length) : (L ++ [z]).getD i 0 = L.getD i 0 := by
  rw [List.getD_eq_getElem?_getD, List.getElem?_append_left h, ← List.getD_eq_getElem?_getD]
theorem sumK_succ (l m : List UInt8) (c : UInt8) (k : Nat) : sumK l m c (k + 1) = sumK l m c k ++ [xorB (xorB (l.getD k 0) (m.getD k 0)) (carK l m c k)] := rfl
theorem sumK_get (l m : List UInt8) (c : UInt8) (k : Nat) : ∀ i, i < k → (sumK l m c k).getD i 0 = xorB (xorB (l.getD i 0) (m.getD i 0)) (carK l m c i) := by
  induction k with
  | zero => intro i h; omega
  | succ k ih =>
    intro i h
    rw [sumK_succ]
    by_cases e : i = k
    · have h9 := getD_last (sumK l m c k) (xorB (xorB (l.getD k 0) (m.getD k 0)) (carK l m c k))
      rw [sumK_len] at h9
      rw [e]; exact h9
    · rw [getD_first _ _ (by rw [sumK_len]; omega)]
      exact ih i (by omega)
theorem num_same {l m : List UInt8} : ∀ k, (∀ i, i < k → l.getD i 0 = m.getD i 0) → num l k = num m k
  | 0, _ => rfl
  | k + 1, h => by
    show num l k + _ = num m k + _
    rw [num_same k (fun i hi => h i (by omega)), h k (by omega)]
theorem num_step (l : List UInt8) (k : Nat) : num l (k + 1) = num l k + bit1 (l.getD k 0) * 2 ^ k := by
  show num l k + _ = _
  unfold bit1; split <;> simp
theorem plus_num {l m : List UInt8} {c : UInt8} (hl : ∀ i, i < l.length → l.getD i 0 = 48 ∨ l.getD i 0 = 49) (hm : ∀ i, i < l.length → m.getD i 0 = 48 ∨ m.getD i 0 = 49) (hc : c = 48 ∨ c = 49) :
    ∀ k, k ≤ l.length → num (sumK l m c k) k + bit1 (carK l m c k) * 2 ^ k = num l k + num m k + bit1 c ∧ (carK l m c k = 48 ∨ carK l m c k = 49)
  | 0, _ => ⟨by show 0 + bit1 c * 2 ^ 0 = 0 + 0 + bit1 c; omega, hc⟩
  | k + 1, h => by
    obtain ⟨ih, hcar⟩ := plus_num hl hm hc k (by omega)
    obtain ⟨hb, hn⟩ := add_bits (hl k (by omega)) (hm k (by omega)) hcar
    refine ⟨?_, hn⟩
    have e1 : num (sumK l m c (k + 1)) (k + 1) = num (sumK l m c k) k + bit1 (xorB (xorB (l.getD k 0) (m.getD k 0)) (carK l m c k)) * 2 ^ k := by
      rw [num_step, sumK_get l m c (k + 1) k (by omega), num_same k (l := sumK l m c (k + 1)) (m := sumK l m c k) (fun i hi => by rw [sumK_get l m c (k + 1) i (by omega), sumK_get l m c k i hi])]
    rw [e1, num_step, num_step]
    have e2 : carK l m c (k + 1) = orB (andB (l.getD k 0) (m.getD k 0)) (andB (carK l m c k) (xorB (l.getD k 0) (m.getD k 0))) := rfl
    rw [e2]
    generalize bit1 (xorB (xorB (l.getD k 0) (m.getD k 0)) (carK l m c k)) = o at hb ⊢
    generalize bit1 (orB (andB (l.getD k 0) (m.getD k 0)) (andB (carK l m c k) (xorB (l.getD k 0) (m.getD k 0)))) = q at hb ⊢
    generalize bit1 (l.getD k 0) = x at hb ⊢
    generalize bit1 (m.getD k 0) = y at hb ⊢
    generalize bit1 (carK l m c k) = z at hb ih
    rw [Nat.pow_succ]
    generalize 2 ^ k = p at ih ⊢
    have h3 : (o + 2 * q) * p = (x + y + z) * p := by rw [hb]
    rw [Nat.add_mul, Nat.add_mul, Nat.add_mul, Nat.mul_assoc] at h3
    have h4 : q * (p * 2) = 2 * (q * p) := by rw [Nat.mul_comm p 2, ← Nat.mul_assoc, Nat.mul_comm q 2, Nat.mul_assoc]
    rw [h4]; omega
theorem num_zero (n : Nat) : ∀ k, num (List.replicate n 48) k = 0
  | 0 => rfl
  | k + 1 => by
    rw [num_step, num_zero n k]
    have : bit1 ((List.replicate n 48).getD k 0) = 0 := by
      rw [List.getD_eq_getElem?_getD, List.getElem?_replicate]
      split <;> decide
    rw [this]; omega
/-- lists of known states -/
def Kn (l : List UInt8) : Prop := ∀ i, i < l.length → l.getD i 0 = 48 ∨ l.getD i 0 = 49
theorem kn_vl {n : Nat} {a : Vx} (hx : a.x = 0#64) : Kn (vl a n) := fun i hi => by
  rw [vl_len] at hi
  rw [vl_get a n i hi]; unfold st; rw [hx]; cases a.v.getLsbD i <;> simp
theorem bytes_set (l : List UInt8) (q : Nat) (z : UInt8) : (Lib.byteCells l).set q (Value.int .u8 (z.toNat : Int)) = Lib.byteCells (l.set q z) := by
  unfold Lib.byteCells; rw [List.map_set]
theorem bytes_at (l : List UInt8) {q : Nat} (h : q < l.length) : (Lib.byteCells l)[q]? = some (Value.int .u8 (l[q].toNat : Int)) := by
  unfold Lib.byteCells; rw [List.getElem?_map, List.getElem?_eq_getElem h]; rfl
/-- a slice of bytes that its maker owns -/
def Own8 (B : Nat) (w : World) (v : Value) (l : List UInt8) : Prop := w.ownsRow B 5 1 v l.length (Lib.byteCells l)
theorem Own8.row {B : Nat} {w : World} {v : Value} {l : List UInt8} (h : Own8 B w v l) : Row8 w v l := row8_own h
theorem Own8.below {B : Nat} {w w' : World} {v : Value} {l : List UInt8} (h : Own8 B w v l) (hb : Below w.heap.size w w') : Own8 B w' v l := own_below h hb
theorem Own8.mono {B B' : Nat} {w : World} {v : Value} {l : List UInt8} (h : Own8 B w v l) (hB : B' ≤ B) : Own8 B' w v l := by
  refine ⟨h.1, ?_⟩
  rcases h.2 with h0 | ⟨g, cap, cur, hv, hb, r⟩
  · exact .inl h0
  · exact .inr ⟨g, cap, cur, hv, Nat.le_trans hB hb, r⟩
/-- a slice of n known states that makes a number -/
def RN (n x : Nat) (v : Value) (w : World) : Prop := ∃ L : List UInt8, Row8 w v L ∧ L.length = n ∧ Kn L ∧ num L n = x
def NR (B n x : Nat) (v : Value) (w : World) : Prop := ∃ L : List UInt8, Own8 B w v L ∧ L.length = n ∧ Kn L ∧ num L n = x
theorem NR.rn {B n x : Nat} {v : Value} {w : World} (h : NR B n x v w) : RN n x v w := by
  obtain ⟨L, h1, h2, h3, h4⟩ := h
  exact ⟨L, h1.row, h2, h3, h4⟩
theorem NR.mono {B B' n x : Nat} {v : Value} {w : World} (h : NR B n x v w) (hB : B' ≤ B) : NR B' n x v w := by
  obtain ⟨L, h1, h2⟩ := h
  exact ⟨L, h1.mono hB, h2⟩
theorem RN.below {n x : Nat} {v : Value} {w w' : World} (h : RN n x v w) (hb : Below w.heap.size w w') : RN n x v w' := by
  obtain ⟨L, h1, h2⟩ := h
  exact ⟨L, h1.below hb, h2⟩
theorem NR.below {B n x : Nat} {v : Value} {w w' : World} (h : NR B n x v w) (hb : Below w.heap.size w w') : NR B n x v w' := by
  obtain ⟨L, h1, h2⟩ := h
  exact ⟨L, h1.below hb, h2⟩
theorem RN.lt {n x : Nat} {v : Value} {w : World} (h : RN n x v w) : x < 2 ^ n := by
  obtain ⟨L, _, _, _, h4⟩ := h
  rw [← h4]; exact num_lt L n
theorem rn_sta (n x : Nat) : Sta (RN n x) := fun _ _ _ h hb => h.below hb
theorem sumK_kn {l m : List UInt8} {c : UInt8} (hl : Kn l) (hm : ∀ i, i < l.length → m.getD i 0 = 48 ∨ m.getD i 0 = 49) (hc : c = 48 ∨ c = 49) : Kn (sumK l m c l.length) := by
  intro i hi
  rw [sumK_len] at hi
  rw [sumK_get l m c l.length i hi]
  have hcar := (plus_num hl hm hc i (by omega)).2
  rcases hl i hi with h1 | h1 <;> rcases hm i hi with h2 | h2 <;> rcases hcar with h3 | h3 <;> rw [h1, h2, h3] <;> simp [xorB, orB, andB, notB]
theorem sumK_num {l m : List UInt8} {c : UInt8} (hl : Kn l) (hm : ∀ i, i < l.length → m.getD i 0 = 48 ∨ m.getD i 0 = 49) (hc : c = 48 ∨ c = 49) : num (sumK l m c l.length) l.length = (num l l.length + num m l.length + bit1 c) % 2 ^ l.length := by
  have hp := (plus_num hl hm hc l.length (Nat.le_refl _)).1
  have hlt := num_lt (sumK l m c l.length) l.length
  rw [← hp, Nat.add_mul_mod_self_right, Nat.mod_eq_of_lt hlt]
theorem num_app (A C : List UInt8) : ∀ j, num (A ++ C) (A.length + j) = num A A.length + 2 ^ A.length * num C j
  | 0 => by
    rw [Nat.add_zero]
    show _ = _ + 2 ^ A.length * 0
    rw [Nat.mul_zero, Nat.add_zero]
    exact num_same _ fun i hi => by rw [List.getD_eq_getElem?_getD, List.getElem?_append_left hi, ← List.getD_eq_getElem?_getD]
  | j + 1 => by
    rw [← Nat.add_assoc, num_step, num_app A C j, num_step]
    have e : (A ++ C).getD (A.length + j) 0 = C.getD j 0 := by
      rw [List.getD_eq_getElem?_getD, List.getElem?_append_right (by omega), Nat.add_sub_cancel_left, ← List.getD_eq_getElem?_getD]
    rw [e, Nat.pow_add, Nat.mul_add, Nat.add_assoc]
    congr 2
    rw [← Nat.mul_assoc, Nat.mul_comm (bit1 _), Nat.mul_assoc, Nat.mul_comm (bit1 _)]
theorem num_mod (l : List UInt8) (n k : Nat) (h : k ≤ n) : num l k = num l n % 2 ^ k := by
  induction n with
  | zero => obtain rfl : k = 0 := by omega
            rfl
  | succ n ih =>
    by_cases e : k = n + 1
    · rw [e, Nat.mod_eq_of_lt (num_lt l _)]
    · rw [ih (by omega), num_step]
      obtain ⟨d, rfl⟩ : ∃ d, n = k + d := ⟨n - k, by omega⟩
      rw [Nat.pow_add, ← Nat.mul_assoc, Nat.mul_comm (bit1 _), Nat.mul_assoc, Nat.add_mul_mod_self_left]
theorem num_take (l : List UInt8) (q : Nat) : num (l.take q) q = num l q := num_same q fun i hi => by
  rw [List.getD_eq_getElem?_getD, List.getElem?_take_of_lt hi, ← List.getD_eq_getElem?_getD]
theorem bytes_news {w : World} {bl off q : Nat} {l : List UInt8} (hc : ∀ j (hj : j < l.length), w.cell? ⟨bl, off + j, none⟩ = some (.int .u8 (l[j].toNat : Int))) : ∀ j u, (Lib.byteCells (l.take q))[j]? = some u → w.cell? ((⟨bl, off, none⟩ : Addr).add j) = some u := by
  intro j u hu
  unfold Lib.byteCells at hu
  rw [List.getElem?_map, Option.map_eq_some_iff] at hu
  obtain ⟨c, h1, rfl⟩ := hu
  have hj := (List.getElem?_eq_some_iff.1 h1).1
  rw [List.length_take] at hj
  have h2 := hc j (by omega)
  rw [List.getElem?_take_of_lt (by omega), List.getElem?_eq_getElem (by omega)] at h1
  injection h1 with h1
  rw [h1] at h2
  by_cases h0 : j = 0
  · subst h0; first | (simp [Addr.add]; done) | simpa [Addr.add] using h2
  · first | (simp [Addr.add, h0]; done) | simpa [Addr.add, h0] using h2
theorem bytes_one (l : List UInt8) : ∀ u ∈ Lib.byteCells l, u.oneCell' = true := by
  intro u hu
  unfold Lib.byteCells at hu
  obtain ⟨c, _, rfl⟩ := List.mem_map.1 hu
  rfl
theorem times_mid {wr W0 wf wa : World} {vf : Value} {Lf : List UInt8} (h0 : Below wr.heap.size wr W0) (hbf : Below W0.heap.size W0 wf) (hof : Own8 W0.heap.size wf vf Lf) (hga : wf.grownBy wa vf.ownBlock) : Below wr.heap.size wr wa :=
  (h0.trans (hbf.mono h0.size)).grown hga (h0.trans (hbf.mono h0.size)).size (fun k hk => ((hof.mono h0.size).lt k hk).1)
theorem own_k {B B' k : Nat} {wf : World} {vf : Value} {Lf : List UInt8} (hof : Own8 B wf vf Lf) (hlf : Lf.length = k) (hB : B' ≤ B) : wf.ownsRow B' 5 1 vf k (Lib.byteCells Lf) := by
  have := hof.mono hB
  unfold Own8 at this
  rwa [hlf] at this
theorem bytes_len {l : List UInt8} {n q : Nat} (hl : l.length = n) (h : q ≤ n) : (Lib.byteCells (l.take q)).length = q * 1 := by
  unfold Lib.byteCells; rw [List.length_map, List.length_take, hl]; omega
theorem cells_to {w wf : World} {bl off : Nat} {l : List UInt8} (hc : ∀ j (hj : j < l.length), w.cell? ⟨bl, off + j, none⟩ = some (.int .u8 (l[j].toNat : Int))) (hb : Below w.heap.size w wf) : ∀ j (hj : j < l.length), wf.cell? ⟨bl, off + j, none⟩ = some (.int .u8 (l[j].toNat : Int)) := fun j hj =>
  (hb.cell (p := ⟨bl, _, none⟩) (World.block_lt_of_cell? w _ (hc j hj))).trans (hc j hj)
theorem times_row {B ga gc n k x : Nat} {wa : World} {Lf l : List UInt8} (hoa : wa.ownsRow B 5 1 (.slice (some ⟨ga, 0, none⟩) (k + (n - k)) gc) (k + (n - k)) (Lib.byteCells Lf ++ Lib.byteCells (l.take (n - k)))) (hlf : Lf.length = k) (hkf : Kn Lf) (hnf : num Lf k = 0) (hl : l.length = n) (hk : Kn l) (hx : num l n = x) (h : k < n) : RN n (2 ^ k * (x % 2 ^ (n - k))) (.slice (some ⟨ga, 0, none⟩) n gc) wa := by
  have e1 : Lib.byteCells Lf ++ Lib.byteCells (l.take (n - k)) = Lib.byteCells (Lf ++ l.take (n - k)) := by unfold Lib.byteCells; rw [List.map_append]
  have e2 : (Lf ++ l.take (n - k)).length = n := by rw [List.length_append, List.length_take, hl, hlf]; omega
  rw [e1, show k + (n - k) = n by omega] at hoa
  refine ⟨Lf ++ l.take (n - k), row8_own (B := B) (by rw [e2]; exact hoa), e2, fun i hi => ?_, ?_⟩
  · by_cases c : i < Lf.length
    · rw [List.getD_eq_getElem?_getD, List.getElem?_append_left c, ← List.getD_eq_getElem?_getD]; exact hkf i c
    · rw [e2] at hi
      rw [List.getD_eq_getElem?_getD, List.getElem?_append_right (by omega), List.getElem?_take_of_lt (by omega), ← List.getD_eq_getElem?_getD]
      exact hk _ (by omega)
  · have := num_app Lf (l.take (n - k)) (n - k)
    rw [hlf, show k + (n - k) = n by omega, hnf, num_take, num_mod l n (n - k) (by omega), hx, Nat.zero_add] at this
    exact this
theorem bit_of {l : List UInt8} {n k x : Nat} (hx : num l n = x) (h : k < n) : x / 2 ^ k = 2 * (x / 2 ^ (k + 1)) + bit1 (l.getD k 0) ∧ bit1 (l.getD k 0) < 2 := by
  have h1 := num_mod l n k (by omega)
  have h2 := num_mod l n (k + 1) (by omega)
  rw [num_step, h1, hx, Nat.mod_pow_succ] at h2
  have hp : 0 < 2 ^ k := Nat.two_pow_pos k
  have e : bit1 (l.getD k 0) = x / 2 ^ k % 2 := by
    have h3 : bit1 (l.getD k 0) * 2 ^ k = 2 ^ k * (x / 2 ^ k % 2) := by omega
    rw [Nat.mul_comm] at h3
    exact Nat.eq_of_mul_eq_mul_left hp h3
  rw [e, Nat.pow_succ, ← Nat.div_div_eq_div_mul]
  omega
theorem num_inj {L M : List UInt8} {n : Nat} (hl : L.length = n) (hm : M.length = n) (hk : Kn L) (hk' : Kn M) (h : num L n = num M n) : L = M := by
  apply List.ext_getElem (hl.trans hm.symm)
  intro i h1 h2
  have b1 := (bit_of (l := L) rfl (show i < n by omega)).1
  have b2 := (bit_of (l := M) rfl (show i < n by omega)).1
  rw [h] at b1
  have e : bit1 (L.getD i 0) = bit1 (M.getD i 0) := by omega
  have k1 := hk i h1
  have k2 := hk' i h2
  rw [getD_at h1] at e k1
  rw [getD_at h2] at e k2
  rcases k1 with k1 | k1 <;> rcases k2 with k2 | k2 <;> rw [k1, k2] at e <;> rw [k1, k2]
  · simp [bit1] at e
  · simp [bit1] at e
/-- a list of known states that makes a number gives the number's vector -/
theorem Bl_num {L : List UInt8} {n : Nat} {c : BitVec 64} (h1 : 1 ≤ n) (h2 : n ≤ 64) (hl : L.length = n) (hk : Kn L) (h : num L n = c.toNat % 2 ^ n) : Bl L = ⟨n, (kv n c).v, (kv n c).x⟩ := by
  have ok := kv_ok h1 h2 c
  have hx : (kv n c).x = 0#64 := rfl
  have e : num (vl (kv n c) n) n = c.toNat % 2 ^ n := by
    rw [num_vl ok hx]; exact and_msk_toNat h2 c
  have : L = vl (kv n c) n := num_inj hl (vl_len _ _) hk (kn_vl hx) (h.trans e.symm)
  rw [this]; exact Bl_vl ok
theorem bytes_news0 {w : World} {bl off : Nat} {l : List UInt8} (hc : ∀ j (hj : j < l.length), w.cell? ⟨bl, off + j, none⟩ = some (.int .u8 (l[j].toNat : Int))) : ∀ j u, (Lib.byteCells l)[j]? = some u → w.cell? ((⟨bl, off, none⟩ : Addr).add j) = some u := by
  have h := bytes_news (q := l.length) hc
  rwa [List.take_length] at h
theorem own_join {B : Nat} {w : World} {v : Value} {l m : List UInt8} (h : w.ownsRow B 5 1 v (l.length + m.length) (Lib.byteCells l ++ Lib.byteCells m)) : Own8 B w v (l ++ m) := by
  unfold Own8
  rw [List.length_append]
  unfold Lib.byteCells at h ⊢
  rw [List.map_append]
  exact h
theorem row8_take {w : World} {bl off L cap n : Nat} {l : List UInt8} (h : Row8 w (.slice (some ⟨bl, off, none⟩) L cap) l) (hn : n ≤ L) : Row8 w (.slice (some ⟨bl, off, none⟩) n cap) (l.take n) := by
  have hcp := h.cp _ _ _ rfl
  obtain ⟨a, c, he, h0⟩ := h.sh
  injection he with e1 e2 e3
  have hlen : (l.take n).length = n := by rw [List.length_take]; omega
  refine ⟨⟨_, cap, by rw [hlen], ?_⟩, fun a' n' c' h' => by injection h' with _ h2 h3; omega⟩
  rcases Nat.eq_zero_or_pos n with hz | hz
  · exact .inl (by omega)
  · rcases h0 with h0 | ⟨b, o, ha, hc⟩
    · omega
    · rw [← e1] at ha
      injection ha with ha
      injection ha with e4 e5
      refine .inr ⟨bl, off, rfl, fun q hq => ?_⟩
      have := hc q (by omega)
      rw [← e4, ← e5] at this
      rw [this]
      simp
theorem row8_drop {w : World} {bl off L cap k : Nat} {l : List UInt8} (h : Row8 w (.slice (some ⟨bl, off, none⟩) L cap) l) (hk : k ≤ L) (c' : Nat) (hc' : L - k ≤ c') : Row8 w (.slice (some ⟨bl, off + k, none⟩) (L - k : Nat) c') (l.drop k) := by
  obtain ⟨a, c, he, h0⟩ := h.sh
  injection he with e1 e2 e3
  have hlen : (l.drop k).length = L - k := by rw [List.length_drop]; omega
  refine ⟨⟨_, c', by rw [hlen], ?_⟩, fun a' n' c1 h' => by injection h' with _ h2 h3; omega⟩
  rcases Nat.eq_zero_or_pos (L - k) with hz | hz
  · exact .inl (by omega)
  · rcases h0 with h0 | ⟨b, o, ha, hc⟩
    · omega
    · rw [← e1] at ha
      injection ha with ha
      injection ha with e4 e5
      refine .inr ⟨bl, off + k, rfl, fun q hq => ?_⟩
      have := hc (k + q) (by omega)
      rw [← e4, ← e5] at this
      rw [Nat.add_assoc, this]
      simp
def slen : Value → Nat
  | .slice _ l _ => l
  | _ => 0
end Go.Proofs.YtogmipbdnffegaaGreatDoor
