/- Sums and lists of noughts of the reference, as numbers; Count. -/
import Derived.Test.YtfnkablbcalclaaGreatDoorMgRefs
import Derived.Test.YtfnkablbcalclaaGreatDoorMgDec
import Derived.Test.YtfnkablbcalclaaGreatDoorRelC
import Derived.Deep.RegionLaw
import Derived.Deep.AppendLies
namespace Go.Proofs.YtfnkablbcalclaaGreatDoor
open Go Go.RowKit Go.Sort
set_option linter.unusedVariables false
def notB (x : UInt8) : UInt8 := if x = 48 then 49 else if x = 49 then 48 else 120
def andB (x y : UInt8) : UInt8 := if x = 48 ∨ y = 48 then 48 else if x = 49 ∧ y = 49 then 49 else 120
def orB (x y : UInt8) : UInt8 := notB (andB (notB x) (notB y))
def xorB (x y : UInt8) : UInt8 := orB (andB x (notB y)) (andB (notB x) y)
set_option maxRecDepth 100000 in
set_option maxHeartbeats 800000 in
theorem notB_ok (x : UInt8) (w : World) : Calls Tryz.prog 104 #[.int .u8 (x.toNat : Int)] w fun e w' => e = .returned (.int .u8 ((notB x).toNat : Int)) ∧ w = w' := by
  have HR : Hid (notB x = if x = 48 then 49 else if x = 49 then 48 else 120) := rfl
  generalize notB x = r at HR ⊢
  by_cases h0 : x = 48
  · have t0 : ((x.toNat : Int) == 48) = true := by rw [h0]; rfl
    replace HR : Hid (r = 49) := HR.out.trans (if_pos h0)
    clear h0
    go_enter Tryz.func104, Tryz.ntmps104
    go_wp2_with fail
    go_ret
    exact ⟨ret_u8 (by rw [HR.out]; rfl), rfl⟩
  have t0 : ((x.toNat : Int) == 48) = false := beq_eq_false_iff_ne.2 (fun e => h0 (UInt8.toNat_inj.1 (by simpa using Int.ofNat_inj.1 e)))
  by_cases h1 : x = 49
  · have t1 : ((x.toNat : Int) == 49) = true := by rw [h1]; rfl
    replace HR : Hid (r = 48) := HR.out.trans ((if_neg h0).trans (if_pos h1))
    clear h0 h1
    go_enter Tryz.func104, Tryz.ntmps104
    go_wp2_with fail
    go_ret
    exact ⟨ret_u8 (by rw [HR.out]; rfl), rfl⟩
  have t1 : ((x.toNat : Int) == 49) = false := beq_eq_false_iff_ne.2 (fun e => h1 (UInt8.toNat_inj.1 (by simpa using Int.ofNat_inj.1 e)))
  replace HR : Hid (r = 120) := HR.out.trans ((if_neg h0).trans (if_neg h1))
  clear h0 h1
  go_enter Tryz.func104, Tryz.ntmps104
  go_wp2_with fail
  go_ret
  exact ⟨ret_u8 (by rw [HR.out]; rfl), rfl⟩
set_option maxRecDepth 100000 in
set_option maxHeartbeats 1600000 in
theorem andB_ok (x y : UInt8) (w : World) : Calls Tryz.prog 96 #[.int .u8 (x.toNat : Int), .int .u8 (y.toNat : Int)] w fun e w' => e = .returned (.int .u8 ((andB x y).toNat : Int)) ∧ w = w' := by
  have HR : Hid (andB x y = if x = 48 ∨ y = 48 then 48 else if x = 49 ∧ y = 49 then 49 else 120) := rfl
  generalize andB x y = r at HR ⊢
  by_cases h0 : x = 48
  · have t0 : ((x.toNat : Int) == 48) = true := by rw [h0]; rfl
    replace HR : Hid (r = 48) := HR.out.trans (if_pos (Or.inl h0))
    clear h0
    go_enter Tryz.func96, Tryz.ntmps96
    go_wp2_with fail
    go_ret
    exact ⟨ret_u8 (by rw [HR.out]; rfl), rfl⟩
  have t0 : ((x.toNat : Int) == 48) = false := beq_eq_false_iff_ne.2 (fun e => h0 (UInt8.toNat_inj.1 (by simpa using Int.ofNat_inj.1 e)))
  by_cases g0 : y = 48
  · have s0 : ((y.toNat : Int) == 48) = true := by rw [g0]; rfl
    replace HR : Hid (r = 48) := HR.out.trans (if_pos (Or.inr g0))
    clear h0 g0
    go_enter Tryz.func96, Tryz.ntmps96
    go_wp2_with fail
    go_ret
    exact ⟨ret_u8 (by rw [HR.out]; rfl), rfl⟩
  have s0 : ((y.toNat : Int) == 48) = false := beq_eq_false_iff_ne.2 (fun e => g0 (UInt8.toNat_inj.1 (by simpa using Int.ofNat_inj.1 e)))
  have hn : ¬ (x = 48 ∨ y = 48) := fun e => e.elim h0 g0
  by_cases h1 : x = 49
  · have t1 : ((x.toNat : Int) == 49) = true := by rw [h1]; rfl
    by_cases g1 : y = 49
    · have s1 : ((y.toNat : Int) == 49) = true := by rw [g1]; rfl
      replace HR : Hid (r = 49) := HR.out.trans ((if_neg hn).trans (if_pos ⟨h1, g1⟩))
      clear h0 g0 hn h1 g1
      go_enter Tryz.func96, Tryz.ntmps96
      go_wp2_with fail
      go_ret
      exact ⟨ret_u8 (by rw [HR.out]; rfl), rfl⟩
    have s1 : ((y.toNat : Int) == 49) = false := beq_eq_false_iff_ne.2 (fun e => g1 (UInt8.toNat_inj.1 (by simpa using Int.ofNat_inj.1 e)))
    replace HR : Hid (r = 120) := HR.out.trans ((if_neg hn).trans (if_neg (fun e => g1 e.2)))
    clear h0 g0 hn h1 g1
    go_enter Tryz.func96, Tryz.ntmps96
    go_wp2_with fail
    go_ret
    exact ⟨ret_u8 (by rw [HR.out]; rfl), rfl⟩
  have t1 : ((x.toNat : Int) == 49) = false := beq_eq_false_iff_ne.2 (fun e => h1 (UInt8.toNat_inj.1 (by simpa using Int.ofNat_inj.1 e)))
  replace HR : Hid (r = 120) := HR.out.trans ((if_neg hn).trans (if_neg (fun e => h1 e.1)))
  clear h0 g0 hn h1
  go_enter Tryz.func96, Tryz.ntmps96
  go_wp2_with fail
  go_ret
  exact ⟨ret_u8 (by rw [HR.out]; rfl), rfl⟩
set_option maxRecDepth 100000 in
set_option maxHeartbeats 800000 in
theorem orB_ok (x y : UInt8) (w : World) : Calls Tryz.prog 95 #[.int .u8 (x.toNat : Int), .int .u8 (y.toNat : Int)] w fun e w' => e = .returned (.int .u8 ((orB x y).toNat : Int)) ∧ w = w' := by
  go_enter Tryz.func95, Tryz.ntmps95
  go_wp2_with fail
  refine (notB_ok x _).mono ?_
  rintro e w' ⟨rfl, rfl⟩
  go_wp2_with fail
  refine (notB_ok y _).mono ?_
  rintro e w' ⟨rfl, rfl⟩
  go_wp2_with fail
  refine (andB_ok (notB x) (notB y) _).mono ?_
  rintro e w' ⟨rfl, rfl⟩
  go_wp2_with fail
  refine (notB_ok (andB (notB x) (notB y)) _).mono ?_
  rintro e w' ⟨rfl, rfl⟩
  go_wp2_with fail
  go_ret
  exact ⟨rfl, rfl⟩
set_option maxRecDepth 100000 in
set_option maxHeartbeats 800000 in
theorem xorB_ok (x y : UInt8) (w : World) : Calls Tryz.prog 94 #[.int .u8 (x.toNat : Int), .int .u8 (y.toNat : Int)] w fun e w' => e = .returned (.int .u8 ((xorB x y).toNat : Int)) ∧ w = w' := by
  go_enter Tryz.func94, Tryz.ntmps94
  go_wp2_with fail
  refine (notB_ok y _).mono ?_
  rintro e w' ⟨rfl, rfl⟩
  go_wp2_with fail
  refine (andB_ok x (notB y) _).mono ?_
  rintro e w' ⟨rfl, rfl⟩
  go_wp2_with fail
  refine (notB_ok x _).mono ?_
  rintro e w' ⟨rfl, rfl⟩
  go_wp2_with fail
  refine (andB_ok (notB x) y _).mono ?_
  rintro e w' ⟨rfl, rfl⟩
  go_wp2_with fail
  refine (orB_ok (andB x (notB y)) (andB (notB x) y) _).mono ?_
  rintro e w' ⟨rfl, rfl⟩
  go_wp2_with fail
  go_ret
  exact ⟨rfl, rfl⟩
/-- the carry behind k states -/
def carK (l m : List UInt8) (c : UInt8) : Nat → UInt8
  | 0 => c
  | k + 1 => orB (andB (l.getD k 0) (m.getD k 0)) (andB (carK l m c k) (xorB (l.getD k 0) (m.getD k 0)))
/-- the sum's first k states -/
def sumK (l m : List UInt8) (c : UInt8) : Nat → List UInt8
  | 0 => []
  | k + 1 => sumK l m c k ++ [xorB (xorB (l.getD k 0) (m.getD k 0)) (carK l m c k)]
theorem sumK_len (l m : List UInt8) (c : UInt8) : ∀ k, (sumK l m c k).length = k
  | 0 => rfl
  | k + 1 => by show (sumK l m c k ++ _).length = _; rw [List.length_append, sumK_len l m c k]; rfl
theorem getD_at {l : List UInt8} {k : Nat} (h : k < l.length) : l.getD k 0 = l[k] := by rw [List.getD_eq_getElem?_getD, List.getElem?_eq_getElem h]; rfl
/-- what Count has found in the highest j states -/
def cntD (l : List UInt8) (lim : Nat) : Nat → Nat
  | 0 => 0
  | j + 1 => min (2 * cntD l lim j + if l.getD (l.length - 1 - j) 0 = 49 then 1 else 0) lim
theorem cntD_le (l : List UInt8) (lim : Nat) : ∀ j, cntD l lim j ≤ lim
  | 0 => Nat.zero_le _
  | j + 1 => Nat.min_le_right _ _
theorem row_nth {w : World} {a : Option Addr} {m cap : Nat} {l : List UInt8} (h : Row8 w (.slice a m cap) l) {k : Nat} (hk : k < l.length) : ∃ bl off, a = some ⟨bl, off, none⟩ ∧ m = l.length ∧ ∀ q (hq : q < l.length), w.cell? ⟨bl, off + q, none⟩ = some (.int .u8 (l[q].toNat : Int)) := by
  obtain ⟨a', c, he, h0 | ⟨b, o, ha, hc⟩⟩ := h.sh
  · omega
  · injection he with e1 e2 e3
    exact ⟨b, o, e1.trans ha, e2, hc⟩
set_option maxRecDepth 100000 in
set_option maxHeartbeats 2000000 in
theorem count_any (v : Value) (l : List UInt8) (lim : Nat) (h1 : 1 ≤ lim) (h2 : lim ≤ 1000) (hl : l.length ≤ 1000000) (w : World) (h : Row8 w v l) :
    Calls Tryz.prog 73 #[v, .int .i64 lim] w fun e w' => e = .returned (.int .i64 (cntD l lim l.length : Nat)) ∧ w = w' := by
  obtain ⟨a, cap, rfl, h0⟩ := h.sh
  have H0 := Lib.hid h0
  clear h h0
  generalize hn : l.length = n at hl ⊢
  have HN := Lib.hid hn
  clear hn
  go_enter Tryz.func73, Tryz.ntmps73
  go_wp2_with fail
  go_loop [5, 6] (fun v i => ∃ j : Nat, j ≤ n ∧ i = .int .i64 ((n : Int) - 1 - (j : Int)) ∧ v = .int .u64 ((cntD l lim j : Nat) : Int)) (fun _ i => (intOf i + 1).toNat)
  case atStart => exact ⟨0, Nat.zero_le _, by simp, rfl⟩
  case round =>
    obtain ⟨j, hj, rfl, rfl⟩ := hrel
    have hx := cntD_le l lim j
    by_cases hlt : j < n
    · have hkl : l.length - 1 - j < l.length := by rw [HN.out]; omega
      obtain ⟨bl, off, rfl, hc0⟩ := Row8.nth (cap := cap) (n := n) H0.out hkl
      have hc : w.cell? ⟨bl, off + (n - 1 - j), none⟩ = some (.int .u8 (l[l.length - 1 - j].toNat : Int)) := by
        have e9 : n - 1 - j = l.length - 1 - j := by rw [HN.out]
        rw [e9]; exact hc0
      have hk0 : (0 : Int) ≤ (n : Int) - 1 - (j : Int) := by omega
      have hk1 : (n : Int) - 1 - (j : Int) < (n : Int) := by omega
      have HS := Lib.hid (show cntD l lim (j + 1) = min (2 * cntD l lim j + if l[l.length - 1 - j] = 49 then 1 else 0) lim from by rw [← getD_at hkl]; rfl)
      clear hc0
      generalize l[l.length - 1 - j] = x at hc HS
      generalize cntD l lim j = y at hx HS ⊢
      have m1 : IntKind.u64.wrap (2 * (y : Int)) = 2 * (y : Int) := by rw [IntKind.wrap_u64]; omega
      have m2 : IntKind.u64.wrap (2 * (y : Int) + 1) = 2 * (y : Int) + 1 := by rw [IntKind.wrap_u64]; omega
      have m3 : IntKind.u64.wrap (lim : Int) = (lim : Int) := by rw [IntKind.wrap_u64]; omega
      by_cases h49 : x = 49
      · have t1 : ((x.toNat : Int) == 49) = true := by rw [h49]; rfl
        replace HS : Hid (cntD l lim (j + 1) = min (2 * y + 1) lim) := HS.out.trans (by rw [if_pos h49])
        clear h49
        go_wp2_with fail
        go_round
        case rel => exact ⟨j + 1, by omega, by go_num, by rw [HS.out]; go_num⟩
        case measure => simp [intOf]; omega
      · have t1 : ((x.toNat : Int) == 49) = false := beq_eq_false_iff_ne.2 (fun e => h49 (UInt8.toNat_inj.1 (by simpa using Int.ofNat_inj.1 e)))
        replace HS : Hid (cntD l lim (j + 1) = min (2 * y) lim) := HS.out.trans (by rw [if_neg h49, Nat.add_zero])
        clear h49
        go_wp2_with fail
        go_round
        case rel => exact ⟨j + 1, by omega, by go_num, by rw [HS.out]; go_num⟩
        case measure => simp [intOf]; omega
    · have hkn : j = n := by omega
      have Hkn := Lib.hid hkn
      clear hkn
      have m3 : IntKind.i64.wrap ((cntD l lim j : Nat) : Int) = ((cntD l lim j : Nat) : Int) := by rw [IntKind.wrap_i64]; omega
      go_wp2_with fail
      go_ret
      exact ⟨ret_int (by rw [Hkn.out]), rfl⟩
theorem and_msk_toNat {n : Nat} (h : n ≤ 64) (v : BitVec 64) : (v &&& msk n).toNat = v.toNat % 2 ^ n := by
  rw [BitVec.toNat_and, msk_toNat n h, Nat.and_two_pow_sub_one_eq_mod]
/-- the number of the first k states -/
def num (l : List UInt8) : Nat → Nat
  | 0 => 0
  | k + 1 => num l k + if l.getD k 0 = 49 then 2 ^ k else 0
def hiD (l : List UInt8) : Nat → Nat
  | 0 => 0
  | j + 1 => 2 * hiD l j + if l.getD (l.length - 1 - j) 0 = 49 then 1 else 0
theorem cntD_hi (l : List UInt8) (lim : Nat) : ∀ j, cntD l lim j = min (hiD l j) lim
  | 0 => by show 0 = min 0 lim; omega
  | j + 1 => by
    show min (2 * cntD l lim j + _) lim = min (2 * hiD l j + _) lim
    rw [cntD_hi l lim j]
    split <;> omega
theorem hi_num (l : List UInt8) : ∀ j, j ≤ l.length → hiD l j * 2 ^ (l.length - j) + num l (l.length - j) = num l l.length
  | 0, _ => by show 0 * _ + num l (l.length - 0) = _; rw [Nat.zero_mul, Nat.zero_add]; rfl
  | j + 1, h => by
    have ih := hi_num l j (by omega)
    have e : l.length - j = (l.length - (j + 1)) + 1 := by omega
    rw [e] at ih
    have e2 : l.length - 1 - j = l.length - (j + 1) := by omega
    show (2 * hiD l j + if l.getD (l.length - 1 - j) 0 = 49 then 1 else 0) * _ + _ = _
    rw [e2, ← ih]
    show _ = hiD l j * 2 ^ (l.length - (j + 1) + 1) + (num l (l.length - (j + 1)) + if l.getD (l.length - (j + 1)) 0 = 49 then 2 ^ (l.length - (j + 1)) else 0)
    generalize l.length - (j + 1) = q
    rw [Nat.pow_succ]
    split
    · rw [Nat.add_mul, Nat.one_mul, Nat.mul_comm 2, Nat.mul_assoc, Nat.mul_comm 2]; omega
    · rw [Nat.add_zero, Nat.add_zero, Nat.mul_comm 2, Nat.mul_assoc, Nat.mul_comm 2]
theorem cnt_num (l : List UInt8) (lim : Nat) : cntD l lim l.length = min (num l l.length) lim := by
  rw [cntD_hi]
  have := hi_num l l.length (Nat.le_refl _)
  rw [Nat.sub_self, Nat.pow_zero, Nat.mul_one] at this
  have h0 : num l 0 = 0 := rfl
  rw [h0] at this
  rw [← this]; rfl
theorem num_lt (l : List UInt8) : ∀ k, num l k < 2 ^ k
  | 0 => by show 0 < 1; omega
  | k + 1 => by
    have := num_lt l k
    show num l k + _ < 2 ^ (k + 1)
    rw [Nat.pow_succ]
    split <;> omega
theorem num_vl {q : Nat} {c : Vx} (hc : c.ok q) (hx : c.x = 0#64) : num (vl c q) q = c.v.toNat := by
  have key : ∀ k, k ≤ q → num (vl c q) k = c.v.toNat % 2 ^ k := by
    intro k
    induction k with
    | zero => intro _; show 0 = _; rw [Nat.pow_zero, Nat.mod_one]
    | succ k ih =>
      intro hk
      show num (vl c q) k + _ = _
      rw [ih (by omega), vl_get c q k (by omega), Nat.mod_pow_succ]
      have e : (st c k = 49) ↔ c.v.getLsbD k = true := by
        unfold st; rw [hx]; cases c.v.getLsbD k <;> simp
      have e2 : c.v.toNat / 2 ^ k % 2 = if c.v.getLsbD k = true then 1 else 0 := by
        rw [← BitVec.testBit_toNat, Nat.testBit_eq_decide_div_mod_eq]
        have := Nat.mod_two_eq_zero_or_one (c.v.toNat / 2 ^ k)
        rcases this with h | h <;> simp [h]
      rw [e2]
      by_cases b : c.v.getLsbD k = true
      · rw [if_pos (e.2 b), if_pos b, Nat.mul_one]
      · rw [if_neg (fun h => b (e.1 h)), if_neg b, Nat.mul_zero]
  rw [key q (Nat.le_refl _)]
  have h64 := hc.hi
  have hs := and_msk_toNat h64 c.v
  have : c.v &&& msk q = c.v := by
    apply BitVec.eq_of_getLsbD_eq
    intro i hi
    rw [BitVec.getLsbD_and, msk_bit h64]
    by_cases h : i < q
    · simp [h]
    · rw [hc.subv i (by omega)]; simp
  rw [this] at hs
  exact hs.symm
def bit1 (x : UInt8) : Nat := if x = 49 then 1 else 0
theorem add_bits {x y c : UInt8} (hx : x = 48 ∨ x = 49) (hy : y = 48 ∨ y = 49) (hc : c = 48 ∨ c = 49) : bit1 (xorB (xorB x y) c) + 2 * bit1 (orB (andB x y) (andB c (xorB x y))) = bit1 x + bit1 y + bit1 c ∧ (orB (andB x y) (andB c (xorB x y)) = 48 ∨ orB (andB x y) (andB c (xorB x y)) = 49) := by
  rcases hx with rfl | rfl <;> rcases hy with rfl | rfl <;> rcases hc with rfl | rfl <;> simp [bit1, xorB, orB, andB, notB]
theorem getD_last (L : List UInt8) (z : UInt8) : (L ++ [z]).getD L.length 0 = z := by
  rw [List.getD_eq_getElem?_getD, List.getElem?_append_right (Nat.le_refl _), Nat.sub_self]; rfl
theorem getD_first (L : List UInt8) (z : UInt8) {i : Nat} (h : i < L.length) : (L ++ [z]).getD i 0 = L.getD i 0 := by
  rw [List.getD_eq_getElem?_getD, List.getElem?_append_left h, ← List.getD_eq_getElem?_getD]
theorem sumK_succ (l m : List UInt8) (c : UInt8) (k : Nat) : sumK l m c (k + 1) = sumK l m c k ++ [xorB (xorB (l.getD k 0) (m.getD k 0)) (carK l m c k)] := rfl
theorem sumK_get (l m : List UInt8) (c : UInt8) (k : Nat) : ∀ i, i < k → (sumK l m c k).getD i 0 = xorB (xorB (l.getD i 0) (m.getD i 0)) (carK l m c i) := by
  induction k with
  | zero => intro i h; omega
  | succ k ih =>
    intro i h
    rw [sumK_succ]
    by_cases e : i = k
    · have h9 := getD_last (sumK l m c k) (xorB (xorB (l.getD k 0) (m.getD k 0)) (carK l m c k))
      rw [sumK_len] at h9
      rw [e]; exact h9
    · rw [getD_first _ _ (by rw [sumK_len]; omega)]
      exact ih i (by omega)
theorem num_same {l m : List UInt8} : ∀ k, (∀ i, i < k → l.getD i 0 = m.getD i 0) → num l k = num m k
  | 0, _ => rfl
  | k + 1, h => by
    show num l k + _ = num m k + _
    rw [num_same k (fun i hi => h i (by omega)), h k (by omega)]
theorem num_step (l : List UInt8) (k : Nat) : num l (k + 1) = num l k + bit1 (l.getD k 0) * 2 ^ k := by
  show num l k + _ = _
  unfold bit1; split <;> simp
theorem plus_num {l m : List UInt8} {c : UInt8} (hl : ∀ i, i < l.length → l.getD i 0 = 48 ∨ l.getD i 0 = 49) (hm : ∀ i, i < l.length → m.getD i 0 = 48 ∨ m.getD i 0 = 49) (hc : c = 48 ∨ c = 49) :
    ∀ k, k ≤ l.length → num (sumK l m c k) k + bit1 (carK l m c k) * 2 ^ k = num l k + num m k + bit1 c ∧ (carK l m c k = 48 ∨ carK l m c k = 49)
  | 0, _ => ⟨by show 0 + bit1 c * 2 ^ 0 = 0 + 0 + bit1 c; omega, hc⟩
  | k + 1, h => by
    obtain ⟨ih, hcar⟩ := plus_num hl hm hc k (by omega)
    obtain ⟨hb, hn⟩ := add_bits (hl k (by omega)) (hm k (by omega)) hcar
    refine ⟨?_, hn⟩
    have e1 : num (sumK l m c (k + 1)) (k + 1) = num (sumK l m c k) k + bit1 (xorB (xorB (l.getD k 0) (m.getD k 0)) (carK l m c k)) * 2 ^ k := by
      rw [num_step, sumK_get l m c (k + 1) k (by omega), num_same k (l := sumK l m c (k + 1)) (m := sumK l m c k) (fun i hi => by rw [sumK_get l m c (k + 1) i (by omega), sumK_get l m c k i hi])]
    rw [e1, num_step, num_step]
    have e2 : carK l m c (k + 1) = orB (andB (l.getD k 0) (m.getD k 0)) (andB (carK l m c k) (xorB (l.getD k 0) (m.getD k 0))) := rfl
    rw [e2]
    generalize bit1 (xorB (xorB (l.getD k 0) (m.getD k 0)) (carK l m c k)) = o at hb ⊢
    generalize bit1 (orB (andB (l.getD k 0) (m.getD k 0)) (andB (carK l m c k) (xorB (l.getD k 0) (m.getD k 0)))) = q at hb ⊢
    generalize bit1 (l.getD k 0) = x at hb ⊢
    generalize bit1 (m.getD k 0) = y at hb ⊢
    generalize bit1 (carK l m c k) = z at hb ih
    rw [Nat.pow_succ]
    generalize 2 ^ k = p at ih ⊢
    have h3 : (o + 2 * q) * p = (x + y + z) * p := by rw [hb]
    rw [Nat.add_mul, Nat.add_mul, Nat.add_mul, Nat.mul_assoc] at h3
    have h4 : q * (p * 2) = 2 * (q * p) := by rw [Nat.mul_comm p 2, ← Nat.mul_assoc, Nat.mul_comm q 2, Nat.mul_assoc]
    rw [h4]; omega
theorem num_zero (n : Nat) : ∀ k, num (List.replicate n 48) k = 0
  | 0 => rfl
  | k + 1 => by
    rw [num_step, num_zero n k]
    have : bit1 ((List.replicate n 48).getD k 0) = 0 := by
      rw [List.getD_eq_getElem?_getD, List.getElem?_replicate]
      split <;> decide
    rw [this]; omega
/-- lists of known states -/
def Kn (l : List UInt8) : Prop := ∀ i, i < l.length → l.getD i 0 = 48 ∨ l.getD i 0 = 49
theorem kn_vl {n : Nat} {a : Vx} (hx : a.x = 0#64) : Kn (vl a n) := fun i hi => by
  rw [vl_len] at hi
  rw [vl_get a n i hi]; unfold st; rw [hx]; cases a.v.getLsbD i <;> simp
theorem bytes_set (l : List UInt8) (q : Nat) (z : UInt8) : (Lib.byteCells l).set q (Value.int .u8 (z.toNat : Int)) = Lib.byteCells (l.set q z) := by
  unfold Lib.byteCells; rw [List.map_set]
theorem bytes_at (l : List UInt8) {q : Nat} (h : q < l.length) : (Lib.byteCells l)[q]? = some (Value.int .u8 (l[q].toNat : Int)) := by
  unfold Lib.byteCells; rw [List.getElem?_map, List.getElem?_eq_getElem h]; rfl
/-- a slice of bytes that its maker owns -/
def Own8 (B : Nat) (w : World) (v : Value) (l : List UInt8) : Prop := w.ownsRow B 5 1 v l.length (Lib.byteCells l)
theorem Own8.row {B : Nat} {w : World} {v : Value} {l : List UInt8} (h : Own8 B w v l) : Row8 w v l := row8_own h
theorem Own8.below {B : Nat} {w w' : World} {v : Value} {l : List UInt8} (h : Own8 B w v l) (hb : Below w.heap.size w w') : Own8 B w' v l := own_below h hb
theorem Own8.mono {B B' : Nat} {w : World} {v : Value} {l : List UInt8} (h : Own8 B w v l) (hB : B' ≤ B) : Own8 B' w v l := by
  refine ⟨h.1, ?_⟩
  rcases h.2 with h0 | ⟨g, cap, cur, hv, hb, r⟩
  · exact .inl h0
  · exact .inr ⟨g, cap, cur, hv, Nat.le_trans hB hb, r⟩
set_option maxRecDepth 100000 in
set_option maxHeartbeats 6000000 in
theorem plus_own (v u : Value) (l m : List UInt8) (c : UInt8) (hlm : l.length = m.length) (hl : l.length ≤ 1000000) (w : World) (h : Row8 w v l) (h' : Row8 w u m) :
    Calls Tryz.prog 72 #[v, u, .int .u8 (c.toNat : Int)] w fun e w' => ∃ v, e = .returned v ∧ Own8 w.heap.size w' v (sumK l m c l.length) ∧ Below w.heap.size w w' := by
  obtain ⟨i0, hi, hz0, hz1, hz2⟩ := info_parts info5
  obtain ⟨a, cap, rfl, h0⟩ := h.sh
  obtain ⟨b, capb, rfl, h0b⟩ := h'.sh
  have H0 := Lib.hid h0
  have H0b := Lib.hid h0b
  clear h h0 h' h0b
  generalize hn : l.length = n at hl hlm ⊢
  have HM := Lib.hid hlm.symm
  rw [← hlm]
  have HN := Lib.hid hn
  clear hn hlm
  go_enter Tryz.func72, Tryz.ntmps72
  go_wp2_with fail
  go_loopw [2, 7, 11] (fun cc v i wr => ∃ k : Nat, k ≤ n ∧ i = .int .i64 k ∧ cc = .int .u8 ((carK l m c k).toNat : Int) ∧ wr.ownsRow w.heap.size 5 1 v k (Lib.byteCells (sumK l m c k)) ∧ Below w.heap.size w wr) (fun _ _ i _ => n - (intOf i).toNat)
  case atStart => exact ⟨0, Nat.zero_le _, rfl, rfl, World.ownsRow_nil _ _ _ _, Below.refl _ _⟩
  case round =>
    obtain ⟨k, hk, rfl, rfl, hown, hlo⟩ := hrel
    by_cases hlt : k < n
    · have hkl : k < l.length := by rw [HN.out]; exact hlt
      have hkm : k < m.length := by rw [HM.out]; exact hlt
      obtain ⟨bl, off, rfl, hc⟩ := Row8.nth (cap := cap) (n := n) H0.out hkl
      obtain ⟨bm, ofm, rfl, hcm⟩ := Row8.nth (cap := capb) (n := n) H0b.out hkm
      have hk0 : (0 : Int) ≤ (k : Int) := by omega
      have hk1 : (k : Int) < (n : Int) := by omega
      have HC := Lib.hid (show Lib.byteCells (sumK l m c (k + 1)) = Lib.byteCells (sumK l m c k) ++ [Value.int .u8 (xorB (xorB l[k] m[k]) (carK l m c k)).toNat] from by rw [← getD_at hkl, ← getD_at hkm]; unfold Lib.byteCells; show List.map _ (sumK l m c k ++ _) = _; rw [List.map_append]; rfl)
      have HK := Lib.hid (show carK l m c (k + 1) = orB (andB l[k] m[k]) (andB (carK l m c k) (xorB l[k] m[k])) from by rw [← getD_at hkl, ← getD_at hkm]; rfl)
      have pc := ((bcell hlo).1 _ _ (World.block_lt_of_cell? w _ hc)).trans hc
      have pcm := ((bcell hlo).1 _ _ (World.block_lt_of_cell? w _ hcm)).trans hcm
      generalize l[k] = x at pc hc HC HK
      generalize m[k] = y at pcm hcm HC HK
      generalize carK l m c k = cr at HC HK ⊢
      have HCL := Lib.hid hc
      have HCM := Lib.hid hcm
      clear hc hcm
      have rc := cell_regrown pc
      have rcm := cell_regrown pcm
      go_wp2_with fail
      refine wp_region_rel 13 (by kernel_rfl) (by kernel_rfl) ?_
      simp only [List.take_succ_cons, List.take_zero, List.drop_succ_cons, List.drop_zero]
      (refine rel_fix0 (fun K hK => ?_); go_simp; refine hK _ ?_; clear hK K)
      (refine rel_fix0 (fun K hK => ?_); go_simp; refine hK _ ?_; clear hK K)
      (refine rel_fix0 (fun K hK => ?_); go_simp; refine hK _ ?_; clear hK K)
      (refine rel_fix0 (fun K hK => ?_); go_simp; refine hK _ ?_; clear hK K)
      (refine rel_fix0 (fun K hK => ?_); go_simp; refine hK _ ?_; clear hK K)
      (refine rel_fix0 (fun K hK => ?_); go_simp; refine hK _ ?_; clear hK K)
      (refine rel_fix0 (fun K hK => ?_); go_simp; refine hK _ ?_; clear hK K)
      (refine rel_fix0 (fun K hK => ?_); go_simp; refine hK _ ?_; clear hK K)
      (refine rel_fix0 (fun K hK => ?_); go_simp; refine hK _ ?_; clear hK K)
      (refine rel_fix0 (fun K hK => ?_); go_simp; apply Exists.intro; refine ⟨fun _ _ => ?_, hK _ ?_⟩; (with_reducible exact ret_same (xorB_ok x y _)); clear hK K)
      (refine rel_fix0 (fun K hK => ?_); go_simp; refine hK _ ?_; clear hK K)
      (refine rel_fix0 (fun K hK => ?_); go_simp; apply Exists.intro; refine ⟨fun _ _ => ?_, hK _ ?_⟩; (with_reducible exact ret_same (xorB_ok (xorB x y) cr _)); clear hK K)
      refine rel_fact [] (One8 (xorB (xorB x y) cr).toNat) 26 rfl (by simp) (one8_sta _) (by rfl) (by kernel_rfl) (by kernel_rfl) ?_ ?_
      · intro d os
        simp only [relAll]
        go_simp
        exact ⟨⟨_, rfl, by go_simp⟩, (Below.refl _ _).alloc (Nat.le_of_eq Array.size_append.symm) _⟩
      refine rel_nil ?_
      intro d os
      simp only [relAll]
      rintro uz ⟨bz, rfl, hz⟩
      have hb9 := below_regrown wr d os
      have hown2 := own_below hown hb9
      have hlo2 : Below w.heap.size w (grow (redrawn wr d) os) := hlo.trans (hb9.mono hlo.size)
      clear rc rcm hlo hown hb9 pc pcm
      generalize grow (redrawn wr d) os = wd at hlo2 hown2 hz ⊢
      generalize xorB (xorB x y) cr = z at HC hz ⊢
      go_wp2_with (at_builtin; refine wpList_append_own _ rfl _ _ 53 rfl w.heap.size 5 i0 (.int .u8 0) 1 1 Tryz.underlying53 hi hz0 hz1 hz2 rfl (by decide) _ _ _ rfl hown2 ⟨bz, 0, none⟩ 1 1 [.int .u8 z.toNat] rfl rfl ?d1 ?d2 ?d3 ?d4 ?d5 ?_)
      case d1 =>
        intro q u hq
        match q, hq with
        | 0, hq => simp at hq; subst hq; simpa [Addr.add] using hz
      case d2 => intro u hu; simp at hu; subst hu; rfl
      case d3 => unfold maxLen; omega
      case d4 => omega
      case d5 => exact hlo2.size
      intro v5 w5 hown5 hgr5 _
      have T : w5.ownsRow w.heap.size 5 1 v5 (k + 1) (Lib.byteCells (sumK l m c (k + 1))) ∧ Below w.heap.size w w5 := by
        rw [HC.out]
        exact ⟨hown5, hlo2.grown hgr5 hlo2.size (fun k hk => (hown2.lt k hk).1)⟩
      clear hown5 hgr5 hown2 hlo2 hz
      have pc := ((bcell T.2).1 _ _ (World.block_lt_of_cell? w _ HCL.out)).trans HCL.out
      have pcm := ((bcell T.2).1 _ _ (World.block_lt_of_cell? w _ HCM.out)).trans HCM.out
      have rc := cell_regrown pc
      have rcm := cell_regrown pcm
      have HT := Lib.hid T
      clear T
      go_wp2_with fail
      refine wp_region_rel 22 (by kernel_rfl) (by kernel_rfl) ?_
      simp only [List.take_succ_cons, List.take_zero, List.drop_succ_cons, List.drop_zero]
      (refine rel_fix0 (fun K hK => ?_); go_simp; refine hK _ ?_; clear hK K)
      (refine rel_fix0 (fun K hK => ?_); go_simp; refine hK _ ?_; clear hK K)
      (refine rel_fix0 (fun K hK => ?_); go_simp; refine hK _ ?_; clear hK K)
      (refine rel_fix0 (fun K hK => ?_); go_simp; refine hK _ ?_; clear hK K)
      (refine rel_fix0 (fun K hK => ?_); go_simp; refine hK _ ?_; clear hK K)
      (refine rel_fix0 (fun K hK => ?_); go_simp; refine hK _ ?_; clear hK K)
      (refine rel_fix0 (fun K hK => ?_); go_simp; refine hK _ ?_; clear hK K)
      (refine rel_fix0 (fun K hK => ?_); go_simp; refine hK _ ?_; clear hK K)
      (refine rel_fix0 (fun K hK => ?_); go_simp; apply Exists.intro; refine ⟨fun _ _ => ?_, hK _ ?_⟩; (with_reducible exact ret_same (andB_ok x y _)); clear hK K)
      (refine rel_fix0 (fun K hK => ?_); go_simp; refine hK _ ?_; clear hK K)
      (refine rel_fix0 (fun K hK => ?_); go_simp; refine hK _ ?_; clear hK K)
      (refine rel_fix0 (fun K hK => ?_); go_simp; refine hK _ ?_; clear hK K)
      (refine rel_fix0 (fun K hK => ?_); go_simp; refine hK _ ?_; clear hK K)
      (refine rel_fix0 (fun K hK => ?_); go_simp; refine hK _ ?_; clear hK K)
      (refine rel_fix0 (fun K hK => ?_); go_simp; refine hK _ ?_; clear hK K)
      (refine rel_fix0 (fun K hK => ?_); go_simp; refine hK _ ?_; clear hK K)
      (refine rel_fix0 (fun K hK => ?_); go_simp; refine hK _ ?_; clear hK K)
      (refine rel_fix0 (fun K hK => ?_); go_simp; refine hK _ ?_; clear hK K)
      (refine rel_fix0 (fun K hK => ?_); go_simp; apply Exists.intro; refine ⟨fun _ _ => ?_, hK _ ?_⟩; (with_reducible exact ret_same (xorB_ok x y _)); clear hK K)
      (refine rel_fix0 (fun K hK => ?_); go_simp; apply Exists.intro; refine ⟨fun _ _ => ?_, hK _ ?_⟩; (with_reducible exact ret_same (andB_ok cr (xorB x y) _)); clear hK K)
      (refine rel_fix0 (fun K hK => ?_); go_simp; apply Exists.intro; refine ⟨fun _ _ => ?_, hK _ ?_⟩; (with_reducible exact ret_same (orB_ok (andB x y) (andB cr (xorB x y)) _)); clear hK K)
      (refine rel_fix0 (fun K hK => ?_); go_simp; refine hK _ ?_; clear hK K)
      refine rel_nil ?_
      intro d os
      simp only [relAll]
      have T2 : (grow (redrawn w5 d) os).ownsRow w.heap.size 5 1 v5 (k + 1) (Lib.byteCells (sumK l m c (k + 1))) ∧ Below w.heap.size w (grow (redrawn w5 d) os) := ⟨own_below HT.out.1 (below_regrown w5 d os), HT.out.2.trans ((below_regrown w5 d os).mono HT.out.2.size)⟩
      clear rc rcm pc pcm
      generalize grow (redrawn w5 d) os = w6 at T2 ⊢
      go_wp2_with fail
      go_roundw
      case rel => exact ⟨k + 1, by omega, by go_num, by rw [HK.out], T2⟩
      case measure => simp [intOf]; omega
    · have hkn : k = n := by omega
      have Hkn := Lib.hid hkn
      clear hkn
      go_wp2_with fail
      go_ret
      refine ⟨_, rfl, ?_, hlo⟩
      rw [← Hkn.out]
      unfold Own8; rw [sumK_len]; exact hown
set_option maxRecDepth 100000 in
set_option maxHeartbeats 1000000 in
theorem refFill_own (n : Nat) (c : UInt8) (hn : n ≤ 1000000) (w : World) :
    Calls Tryz.prog 71 #[.int .i64 n, .int .u8 (c.toNat : Int)] w fun e w' => ∃ v, e = .returned v ∧ Own8 w.heap.size w' v (List.replicate n c) ∧ Below w.heap.size w w' := by
  obtain ⟨i0, hi, hz0, hz1, hz2⟩ := info_parts info5
  go_enter Tryz.func71, Tryz.ntmps71
  go_wp2_with fail
  go_loopw [5, 7] (fun v i wr => ∃ k : Nat, k ≤ n ∧ i = .int .i64 k ∧ wr.ownsRow w.heap.size 5 1 v (List.replicate k c).length (Lib.byteCells (List.replicate k c)) ∧ Below w.heap.size w wr) (fun _ i _ => n - (intOf i).toNat)
  case atStart => exact ⟨0, Nat.zero_le _, rfl, World.ownsRow_nil _ _ _ _, Below.refl _ _⟩
  case round =>
    obtain ⟨k, hk, rfl, hown, hlo⟩ := hrel
    have Hlen := Lib.hid (List.length_replicate (n := k) (a := c))
    by_cases hlt : k < n
    · have HC : Lib.byteCells (List.replicate (k + 1) c) = Lib.byteCells (List.replicate k c) ++ [Value.int .u8 c.toNat] ∧ (List.replicate (k + 1) c).length = k + 1 := by
        refine ⟨?_, List.length_replicate⟩
        rw [List.replicate_succ']; unfold Lib.byteCells; simp
      have HCC := Lib.hid HC
      clear HC
      go_wp2_with (at_builtin; refine wpList_append_own _ rfl _ _ 53 rfl w.heap.size 5 i0 (.int .u8 0) 1 1 Tryz.underlying53 hi hz0 hz1 hz2 rfl (by decide) _ _ _ rfl (hown.alloc _) ⟨wr.heap.size, 0, none⟩ 1 1 [.int .u8 c.toNat] rfl rfl ?d1 ?d2 ?d3 ?d4 ?d5 ?_)
      case d1 =>
        intro q u hq
        match q, hq with
        | 0, hq => simp at hq; subst hq; simp [Addr.add]
      case d2 => intro u hu; simp at hu; subst hu; rfl
      case d3 => unfold maxLen; rw [Hlen.out]; omega
      case d4 => rw [Hlen.out]; omega
      case d5 => have := hlo.size; simp; omega
      intro v5 w5 hown5 hgr5 _
      have T : w5.ownsRow w.heap.size 5 1 v5 (List.replicate (k + 1) c).length (Lib.byteCells (List.replicate (k + 1) c)) ∧ Below w.heap.size w w5 := by
        rw [HCC.out.1, HCC.out.2]
        exact ⟨hown5, (hlo.alloc hlo.size _).grown hgr5 (by have := hlo.size; simp; omega) (fun k hk => (hown.lt k hk).1)⟩
      clear hown5 hgr5
      go_wp2_with fail
      go_roundw
      case rel => exact ⟨k + 1, by omega, by go_num, T⟩
      case measure => simp [intOf]; omega
    · have hkn : k = n := by omega
      have Hkn := Lib.hid hkn
      clear hkn
      go_wp2_with fail
      go_ret
      refine ⟨_, rfl, ?_, hlo⟩
      have h : Own8 w.heap.size wr _ (List.replicate k c) := hown
      rw [Hkn.out] at h; exact h
/-- a slice of n known states that makes a number -/
def RN (n x : Nat) (v : Value) (w : World) : Prop := ∃ L : List UInt8, Row8 w v L ∧ L.length = n ∧ Kn L ∧ num L n = x
def NR (B n x : Nat) (v : Value) (w : World) : Prop := ∃ L : List UInt8, Own8 B w v L ∧ L.length = n ∧ Kn L ∧ num L n = x
theorem NR.rn {B n x : Nat} {v : Value} {w : World} (h : NR B n x v w) : RN n x v w := by
  obtain ⟨L, h1, h2, h3, h4⟩ := h
  exact ⟨L, h1.row, h2, h3, h4⟩
theorem NR.mono {B B' n x : Nat} {v : Value} {w : World} (h : NR B n x v w) (hB : B' ≤ B) : NR B' n x v w := by
  obtain ⟨L, h1, h2⟩ := h
  exact ⟨L, h1.mono hB, h2⟩
theorem RN.below {n x : Nat} {v : Value} {w w' : World} (h : RN n x v w) (hb : Below w.heap.size w w') : RN n x v w' := by
  obtain ⟨L, h1, h2⟩ := h
  exact ⟨L, h1.below hb, h2⟩
theorem NR.below {B n x : Nat} {v : Value} {w w' : World} (h : NR B n x v w) (hb : Below w.heap.size w w') : NR B n x v w' := by
  obtain ⟨L, h1, h2⟩ := h
  exact ⟨L, h1.below hb, h2⟩
theorem RN.lt {n x : Nat} {v : Value} {w : World} (h : RN n x v w) : x < 2 ^ n := by
  obtain ⟨L, _, _, _, h4⟩ := h
  rw [← h4]; exact num_lt L n
theorem rn_sta (n x : Nat) : Sta (RN n x) := fun _ _ _ h hb => h.below hb
theorem sumK_kn {l m : List UInt8} {c : UInt8} (hl : Kn l) (hm : ∀ i, i < l.length → m.getD i 0 = 48 ∨ m.getD i 0 = 49) (hc : c = 48 ∨ c = 49) : Kn (sumK l m c l.length) := by
  intro i hi
  rw [sumK_len] at hi
  rw [sumK_get l m c l.length i hi]
  have hcar := (plus_num hl hm hc i (by omega)).2
  rcases hl i hi with h1 | h1 <;> rcases hm i hi with h2 | h2 <;> rcases hcar with h3 | h3 <;> rw [h1, h2, h3] <;> simp [xorB, orB, andB, notB]
theorem sumK_num {l m : List UInt8} {c : UInt8} (hl : Kn l) (hm : ∀ i, i < l.length → m.getD i 0 = 48 ∨ m.getD i 0 = 49) (hc : c = 48 ∨ c = 49) : num (sumK l m c l.length) l.length = (num l l.length + num m l.length + bit1 c) % 2 ^ l.length := by
  have hp := (plus_num hl hm hc l.length (Nat.le_refl _)).1
  have hlt := num_lt (sumK l m c l.length) l.length
  rw [← hp, Nat.add_mul_mod_self_right, Nat.mod_eq_of_lt hlt]
theorem plusR (v u : Value) (n x y : Nat) (hn : n ≤ 1000) (w : World) (h : RN n x v w) (h' : RN n y u w) :
    Calls Tryz.prog 72 #[v, u, .int .u8 48] w fun e w' => ∃ r, e = .returned r ∧ NR w.heap.size n ((x + y) % 2 ^ n) r w' ∧ Below w.heap.size w w' := by
  obtain ⟨l, h1, rfl, hk, rfl⟩ := h
  obtain ⟨m, h1', hm, hk', rfl⟩ := h'
  have hm' : ∀ i, i < l.length → m.getD i 0 = 48 ∨ m.getD i 0 = 49 := fun i hi => hk' i (by omega)
  refine (plus_own v u l m 48 hm.symm (by omega) w h1 h1').mono fun e w' ⟨r, he, hr, hb⟩ => ⟨r, he, ⟨_, hr, sumK_len _ _ _ _, sumK_kn hk hm' (.inl rfl), ?_⟩, hb⟩
  rw [sumK_num hk hm' (.inl rfl)]; rfl
theorem fillR (n : Nat) (hn : n ≤ 1000) (w : World) :
    Calls Tryz.prog 71 #[.int .i64 n, .int .u8 48] w fun e w' => ∃ r, e = .returned r ∧ NR w.heap.size n 0 r w' ∧ Below w.heap.size w w' := by
  refine (refFill_own n 48 (by omega) w).mono fun e w' ⟨r, he, hr, hb⟩ => ⟨r, he, ⟨_, hr, List.length_replicate, fun i hi => ?_, num_zero n n⟩, hb⟩
  rw [getD_at hi, List.getElem_replicate]; exact .inl rfl
theorem num_app (A C : List UInt8) : ∀ j, num (A ++ C) (A.length + j) = num A A.length + 2 ^ A.length * num C j
  | 0 => by
    rw [Nat.add_zero]
    show _ = _ + 2 ^ A.length * 0
    rw [Nat.mul_zero, Nat.add_zero]
    exact num_same _ fun i hi => by rw [List.getD_eq_getElem?_getD, List.getElem?_append_left hi, ← List.getD_eq_getElem?_getD]
  | j + 1 => by
    rw [← Nat.add_assoc, num_step, num_app A C j, num_step]
    have e : (A ++ C).getD (A.length + j) 0 = C.getD j 0 := by
      rw [List.getD_eq_getElem?_getD, List.getElem?_append_right (by omega), Nat.add_sub_cancel_left, ← List.getD_eq_getElem?_getD]
    rw [e, Nat.pow_add, Nat.mul_add, Nat.add_assoc]
    congr 2
    rw [← Nat.mul_assoc, Nat.mul_comm (bit1 _), Nat.mul_assoc, Nat.mul_comm (bit1 _)]
theorem num_mod (l : List UInt8) (n k : Nat) (h : k ≤ n) : num l k = num l n % 2 ^ k := by
  induction n with
  | zero => obtain rfl : k = 0 := by omega
            rfl
  | succ n ih =>
    by_cases e : k = n + 1
    · rw [e, Nat.mod_eq_of_lt (num_lt l _)]
    · rw [ih (by omega), num_step]
      obtain ⟨d, rfl⟩ : ∃ d, n = k + d := ⟨n - k, by omega⟩
      rw [Nat.pow_add, ← Nat.mul_assoc, Nat.mul_comm (bit1 _), Nat.mul_assoc, Nat.add_mul_mod_self_left]
theorem num_take (l : List UInt8) (q : Nat) : num (l.take q) q = num l q := num_same q fun i hi => by
  rw [List.getD_eq_getElem?_getD, List.getElem?_take_of_lt hi, ← List.getD_eq_getElem?_getD]
theorem bytes_news {w : World} {bl off q : Nat} {l : List UInt8} (hc : ∀ j (hj : j < l.length), w.cell? ⟨bl, off + j, none⟩ = some (.int .u8 (l[j].toNat : Int))) : ∀ j u, (Lib.byteCells (l.take q))[j]? = some u → w.cell? ((⟨bl, off, none⟩ : Addr).add j) = some u := by
  intro j u hu
  unfold Lib.byteCells at hu
  rw [List.getElem?_map, Option.map_eq_some_iff] at hu
  obtain ⟨c, h1, rfl⟩ := hu
  have hj := (List.getElem?_eq_some_iff.1 h1).1
  rw [List.length_take] at hj
  have h2 := hc j (by omega)
  rw [List.getElem?_take_of_lt (by omega), List.getElem?_eq_getElem (by omega)] at h1
  injection h1 with h1
  rw [h1] at h2
  by_cases h0 : j = 0
  · subst h0; first | (simp [Addr.add]; done) | simpa [Addr.add] using h2
  · first | (simp [Addr.add, h0]; done) | simpa [Addr.add, h0] using h2
theorem bytes_one (l : List UInt8) : ∀ u ∈ Lib.byteCells l, u.oneCell' = true := by
  intro u hu
  unfold Lib.byteCells at hu
  obtain ⟨c, _, rfl⟩ := List.mem_map.1 hu
  rfl
theorem times_mid {wr W0 wf wa : World} {vf : Value} {Lf : List UInt8} (h0 : Below wr.heap.size wr W0) (hbf : Below W0.heap.size W0 wf) (hof : Own8 W0.heap.size wf vf Lf) (hga : wf.grownBy wa vf.ownBlock) : Below wr.heap.size wr wa :=
  (h0.trans (hbf.mono h0.size)).grown hga (h0.trans (hbf.mono h0.size)).size (fun k hk => ((hof.mono h0.size).lt k hk).1)
theorem own_k {B B' k : Nat} {wf : World} {vf : Value} {Lf : List UInt8} (hof : Own8 B wf vf Lf) (hlf : Lf.length = k) (hB : B' ≤ B) : wf.ownsRow B' 5 1 vf k (Lib.byteCells Lf) := by
  have := hof.mono hB
  unfold Own8 at this
  rwa [hlf] at this
theorem bytes_len {l : List UInt8} {n q : Nat} (hl : l.length = n) (h : q ≤ n) : (Lib.byteCells (l.take q)).length = q * 1 := by
  unfold Lib.byteCells; rw [List.length_map, List.length_take, hl]; omega
theorem cells_to {w wf : World} {bl off : Nat} {l : List UInt8} (hc : ∀ j (hj : j < l.length), w.cell? ⟨bl, off + j, none⟩ = some (.int .u8 (l[j].toNat : Int))) (hb : Below w.heap.size w wf) : ∀ j (hj : j < l.length), wf.cell? ⟨bl, off + j, none⟩ = some (.int .u8 (l[j].toNat : Int)) := fun j hj =>
  (hb.cell (p := ⟨bl, _, none⟩) (World.block_lt_of_cell? w _ (hc j hj))).trans (hc j hj)
theorem times_row {B ga gc n k x : Nat} {wa : World} {Lf l : List UInt8} (hoa : wa.ownsRow B 5 1 (.slice (some ⟨ga, 0, none⟩) (k + (n - k)) gc) (k + (n - k)) (Lib.byteCells Lf ++ Lib.byteCells (l.take (n - k)))) (hlf : Lf.length = k) (hkf : Kn Lf) (hnf : num Lf k = 0) (hl : l.length = n) (hk : Kn l) (hx : num l n = x) (h : k < n) : RN n (2 ^ k * (x % 2 ^ (n - k))) (.slice (some ⟨ga, 0, none⟩) n gc) wa := by
  have e1 : Lib.byteCells Lf ++ Lib.byteCells (l.take (n - k)) = Lib.byteCells (Lf ++ l.take (n - k)) := by unfold Lib.byteCells; rw [List.map_append]
  have e2 : (Lf ++ l.take (n - k)).length = n := by rw [List.length_append, List.length_take, hl, hlf]; omega
  rw [e1, show k + (n - k) = n by omega] at hoa
  refine ⟨Lf ++ l.take (n - k), row8_own (B := B) (by rw [e2]; exact hoa), e2, fun i hi => ?_, ?_⟩
  · by_cases c : i < Lf.length
    · rw [List.getD_eq_getElem?_getD, List.getElem?_append_left c, ← List.getD_eq_getElem?_getD]; exact hkf i c
    · rw [e2] at hi
      rw [List.getD_eq_getElem?_getD, List.getElem?_append_right (by omega), List.getElem?_take_of_lt (by omega), ← List.getD_eq_getElem?_getD]
      exact hk _ (by omega)
  · have := num_app Lf (l.take (n - k)) (n - k)
    rw [hlf, show k + (n - k) = n by omega, hnf, num_take, num_mod l n (n - k) (by omega), hx, Nat.zero_add] at this
    exact this
theorem bit_of {l : List UInt8} {n k x : Nat} (hx : num l n = x) (h : k < n) : x / 2 ^ k = 2 * (x / 2 ^ (k + 1)) + bit1 (l.getD k 0) ∧ bit1 (l.getD k 0) < 2 := by
  have h1 := num_mod l n k (by omega)
  have h2 := num_mod l n (k + 1) (by omega)
  rw [num_step, h1, hx, Nat.mod_pow_succ] at h2
  have hp : 0 < 2 ^ k := Nat.two_pow_pos k
  have e : bit1 (l.getD k 0) = x / 2 ^ k % 2 := by
    have h3 : bit1 (l.getD k 0) * 2 ^ k = 2 ^ k * (x / 2 ^ k % 2) := by omega
    rw [Nat.mul_comm] at h3
    exact Nat.eq_of_mul_eq_mul_left hp h3
  rw [e, Nat.pow_succ, ← Nat.div_div_eq_div_mul]
  omega
theorem num_inj {L M : List UInt8} {n : Nat} (hl : L.length = n) (hm : M.length = n) (hk : Kn L) (hk' : Kn M) (h : num L n = num M n) : L = M := by
  apply List.ext_getElem (hl.trans hm.symm)
  intro i h1 h2
  have b1 := (bit_of (l := L) rfl (show i < n by omega)).1
  have b2 := (bit_of (l := M) rfl (show i < n by omega)).1
  rw [h] at b1
  have e : bit1 (L.getD i 0) = bit1 (M.getD i 0) := by omega
  have k1 := hk i h1
  have k2 := hk' i h2
  rw [getD_at h1] at e k1
  rw [getD_at h2] at e k2
  rcases k1 with k1 | k1 <;> rcases k2 with k2 | k2 <;> rw [k1, k2] at e <;> rw [k1, k2]
  · simp [bit1] at e
  · simp [bit1] at e
/-- a list of known states that makes a number gives the number's vector -/
theorem Bl_num {L : List UInt8} {n : Nat} {c : BitVec 64} (h1 : 1 ≤ n) (h2 : n ≤ 64) (hl : L.length = n) (hk : Kn L) (h : num L n = c.toNat % 2 ^ n) : Bl L = ⟨n, (kv n c).v, (kv n c).x⟩ := by
  have ok := kv_ok h1 h2 c
  have hx : (kv n c).x = 0#64 := rfl
  have e : num (vl (kv n c) n) n = c.toNat % 2 ^ n := by
    rw [num_vl ok hx]; exact and_msk_toNat h2 c
  have : L = vl (kv n c) n := num_inj hl (vl_len _ _) hk (kn_vl hx) (h.trans e.symm)
  rw [this]; exact Bl_vl ok
theorem bytes_news0 {w : World} {bl off : Nat} {l : List UInt8} (hc : ∀ j (hj : j < l.length), w.cell? ⟨bl, off + j, none⟩ = some (.int .u8 (l[j].toNat : Int))) : ∀ j u, (Lib.byteCells l)[j]? = some u → w.cell? ((⟨bl, off, none⟩ : Addr).add j) = some u := by
  have h := bytes_news (q := l.length) hc
  rwa [List.take_length] at h
theorem own_join {B : Nat} {w : World} {v : Value} {l m : List UInt8} (h : w.ownsRow B 5 1 v (l.length + m.length) (Lib.byteCells l ++ Lib.byteCells m)) : Own8 B w v (l ++ m) := by
  unfold Own8
  rw [List.length_append]
  unfold Lib.byteCells at h ⊢
  rw [List.map_append]
  exact h
theorem row8_take {w : World} {bl off L cap n : Nat} {l : List UInt8} (h : Row8 w (.slice (some ⟨bl, off, none⟩) L cap) l) (hn : n ≤ L) : Row8 w (.slice (some ⟨bl, off, none⟩) n cap) (l.take n) := by
  have hcp := h.cp _ _ _ rfl
  obtain ⟨a, c, he, h0⟩ := h.sh
  injection he with e1 e2 e3
  have hlen : (l.take n).length = n := by rw [List.length_take]; omega
  refine ⟨⟨_, cap, by rw [hlen], ?_⟩, fun a' n' c' h' => by injection h' with _ h2 h3; omega⟩
  rcases Nat.eq_zero_or_pos n with hz | hz
  · exact .inl (by omega)
  · rcases h0 with h0 | ⟨b, o, ha, hc⟩
    · omega
    · rw [← e1] at ha
      injection ha with ha
      injection ha with e4 e5
      refine .inr ⟨bl, off, rfl, fun q hq => ?_⟩
      have := hc q (by omega)
      rw [← e4, ← e5] at this
      rw [this]
      simp
theorem row8_drop {w : World} {bl off L cap k : Nat} {l : List UInt8} (h : Row8 w (.slice (some ⟨bl, off, none⟩) L cap) l) (hk : k ≤ L) (c' : Nat) (hc' : L - k ≤ c') : Row8 w (.slice (some ⟨bl, off + k, none⟩) (L - k : Nat) c') (l.drop k) := by
  obtain ⟨a, c, he, h0⟩ := h.sh
  injection he with e1 e2 e3
  have hlen : (l.drop k).length = L - k := by rw [List.length_drop]; omega
  refine ⟨⟨_, c', by rw [hlen], ?_⟩, fun a' n' c1 h' => by injection h' with _ h2 h3; omega⟩
  rcases Nat.eq_zero_or_pos (L - k) with hz | hz
  · exact .inl (by omega)
  · rcases h0 with h0 | ⟨b, o, ha, hc⟩
    · omega
    · rw [← e1] at ha
      injection ha with ha
      injection ha with e4 e5
      refine .inr ⟨bl, off + k, rfl, fun q hq => ?_⟩
      have := hc (k + q) (by omega)
      rw [← e4, ← e5] at this
      rw [Nat.add_assoc, this]
      simp
def slen : Value → Nat
  | .slice _ l _ => l
  | _ => 0
end Go.Proofs.YtfnkablbcalclaaGreatDoor
