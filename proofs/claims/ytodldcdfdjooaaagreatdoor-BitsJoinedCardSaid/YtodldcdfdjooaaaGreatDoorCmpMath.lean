/- Comparisons of lists of states are those of vectors. No condition. -/
import Derived.Test.YtodldcdfdjooaaaGreatDoorRefCmp2
import Derived.Test.YtodldcdfdjooaaaGreatDoorCmpProg
import Derived.Test.YtodldcdfdjooaaaGreatDoorNumMath
namespace Go.Proofs.YtodldcdfdjooaaaGreatDoor
open Go Go.RowKit Go.Sort
set_option linter.unusedVariables false
/-- one state, as a vector -/
theorem Bl_t : Bl [49] = ⟨1, (tr true).v, (tr true).x⟩ := Bl_map (tr_ok true) (by decide)
theorem Bl_f : Bl [48] = ⟨1, (tr false).v, (tr false).x⟩ := Bl_map (tr_ok false) (by decide)
theorem Bl_x : Bl [120] = ⟨1, (fl 1 3).v, (fl 1 3).x⟩ := Bl_map (fl_ok (by decide) (by decide) 3) (by decide)
theorem Bl_tr (t : Bool) : Bl [oneB (truN t)] = ⟨1, (tr t).v, (tr t).x⟩ := by cases t; exact Bl_f; exact Bl_t
def okP (l m : List UInt8) (i : Nat) : Bool := !(kn1 (l.getD i 0) && kn1 (m.getD i 0) && !(l.getD i 0 == m.getD i 0))
def knP (l m : List UInt8) (i : Nat) : Bool := kn1 (l.getD i 0) && kn1 (m.getD i 0)
theorem cmpK_is (l m : List UInt8) : ∀ k, cmpK l m k = if (List.range k).all (okP l m) then (if (List.range k).all (knP l m) then 116 else 117) else 102
  | 0 => rfl
  | k + 1 => by
    show cmpF (cmpK l m k) _ _ = _
    rw [cmpK_is l m k, List.range_succ, List.all_append, List.all_append]
    generalize (List.range k).all (okP l m) = A
    generalize (List.range k).all (knP l m) = B
    have e1 : ([k].all (okP l m)) = okP l m k := by simp
    have e2 : ([k].all (knP l m)) = knP l m k := by simp
    rw [e1, e2]
    unfold okP knP cmpF
    generalize l.getD k 0 = x
    generalize m.getD k 0 = y
    by_cases e : x = y
    · subst e
      have : (x == x) = true := by simp
      rw [this]
      cases kn1 x <;> cases A <;> cases B <;> simp
    · have : (x == y) = false := by simpa using e
      rw [this]
      cases kn1 x <;> cases kn1 y <;> cases A <;> cases B <;> simp [e]
theorem kn_st (a : Vx) (i : Nat) : kn1 (st a i) = !a.x.getLsbD i := by unfold st; cases a.x.getLsbD i <;> cases a.v.getLsbD i <;> decide
theorem st_beq {a b : Vx} {i : Nat} (h1 : a.x.getLsbD i = false) (h2 : b.x.getLsbD i = false) : (st a i == st b i) = (a.v.getLsbD i == b.v.getLsbD i) := by
  unfold st; rw [h1, h2]; cases a.v.getLsbD i <;> cases b.v.getLsbD i <;> decide
theorem cmp_vl {n : Nat} {a b : Vx} (ha : a.ok n) (hb : b.ok n) : Bl [oneB (cmpK (vl a n) (vl b n) n)] = ⟨1, (veq a b).v, (veq a b).x⟩ := by
  have h2 := ha.hi
  have e1 : (diff1 a b &&& ~~~(a.x ||| b.x) == 0#64) = (List.range n).all (okP (vl a n) (vl b n)) := by
    rw [zero_all _ n h2 (fun i hi => by
      rw [BitVec.getLsbD_and, bit_diff, ha.subv i hi, hb.subv i hi, ha.subx i hi, hb.subx i hi]; rfl)]
    refine all_same fun i hi => ?_
    unfold okP
    rw [vl_get a n i hi, vl_get b n i hi, kn_st, kn_st, BitVec.getLsbD_and, BitVec.getLsbD_not, BitVec.getLsbD_or, bit_diff]
    have h64 : decide (i < 64) = true := by simpa using (by omega : i < 64)
    rw [h64]
    cases hx : a.x.getLsbD i
    · cases hy : b.x.getLsbD i
      · rw [st_beq hx hy]; cases a.v.getLsbD i <;> cases b.v.getLsbD i <;> rfl
      · simp
    · cases hy : b.x.getLsbD i <;> simp
  have e2 : (a.x ||| b.x == 0#64) = (List.range n).all (knP (vl a n) (vl b n)) := by
    rw [zero_all _ n h2 (fun i hi => by rw [BitVec.getLsbD_or, ha.subx i hi, hb.subx i hi]; rfl)]
    refine all_same fun i hi => ?_
    unfold knP
    rw [vl_get a n i hi, vl_get b n i hi, kn_st, kn_st, BitVec.getLsbD_or]
    cases a.x.getLsbD i <;> cases b.x.getLsbD i <;> rfl
  rw [cmpK_is, ← e1, ← e2]
  unfold veq
  by_cases c1 : diff1 a b &&& ~~~(a.x ||| b.x) = 0#64
  · rw [if_pos c1, beq_iff_eq.2 c1, if_pos rfl]
    by_cases c2 : a.x ||| b.x = 0#64
    · rw [if_pos c2, beq_iff_eq.2 c2]; exact Bl_t
    · rw [if_neg c2, beq_eq_false_iff_ne.2 c2]; exact Bl_x
  · rw [if_neg c1, beq_eq_false_iff_ne.2 c1]; exact Bl_f
theorem vl_eq {n : Nat} {a b : Vx} (ha : a.ok n) (hb : b.ok n) : decide (vl a n = vl b n) = (a.v == b.v && a.x == b.x) := by
  rw [Bool.eq_iff_iff, decide_eq_true_eq, Bool.and_eq_true, beq_iff_eq, beq_iff_eq]
  constructor
  · intro h
    have hv : a.v = b.v := by rw [← bvw_vl ha, ← bvw_vl hb, h]
    have hx : a.x = b.x := by rw [← bxw_vl ha, ← bxw_vl hb, h]
    exact ⟨hv, hx⟩
  · rintro ⟨h1, h2⟩
    obtain ⟨av, ax⟩ := a
    obtain ⟨bv, bx⟩ := b
    simp only at h1 h2
    rw [h1, h2]
/-- opposites -/
theorem opp_t (t : Bool) : oppN (truN t) = truN (!t) := by cases t <;> rfl
theorem vx_same {a b : Vx} (h : a.v = b.v) (k : a.x = b.x) : a = b := by cases a; cases b; simp_all
theorem lnot_tr (t : Bool) : vlnot (tr t) = tr (!t) := by cases t <;> exact vx_same (by decide +kernel) (by decide +kernel)
theorem lnot_x : vlnot (fl 1 3) = fl 1 3 := vx_same (by decide +kernel) (by decide +kernel)
theorem Bl_opp {c : Nat} {q : Vx} (hc : c = 116 ∧ q = tr true ∨ c = 102 ∧ q = tr false ∨ c = 117 ∧ q = fl 1 3) : Bl [oneB c] = ⟨1, q.v, q.x⟩ ∧ Bl [oneB (oppN c)] = ⟨1, (vlnot q).v, (vlnot q).x⟩ := by
  rcases hc with ⟨rfl, rfl⟩ | ⟨rfl, rfl⟩ | ⟨rfl, rfl⟩
  · exact ⟨Bl_t, by rw [lnot_tr]; exact Bl_f⟩
  · exact ⟨Bl_f, by rw [lnot_tr]; exact Bl_t⟩
  · exact ⟨Bl_x, by rw [lnot_x]; exact Bl_x⟩
theorem one_inj {c : Nat} {q : Vx} (hq : q = tr true ∨ q = tr false ∨ q = fl 1 3) (hc : c = 116 ∨ c = 102 ∨ c = 117) (h : Bl [oneB c] = ⟨1, q.v, q.x⟩) : c = 116 ∧ q = tr true ∨ c = 102 ∧ q = tr false ∨ c = 117 ∧ q = fl 1 3 := by
  have key : ∀ q' : Vx, Bl [oneB c] = ⟨1, q'.v, q'.x⟩ → q = q' := fun q' h' => by
    rw [h'] at h; obtain ⟨v, x⟩ := q; obtain ⟨v', x'⟩ := q'; simp only [Rb.mk.injEq, true_and] at h; rw [h.1, h.2]
  rcases hc with rfl | rfl | rfl
  · exact .inl ⟨rfl, key _ Bl_t⟩
  · exact .inr (.inl ⟨rfl, key _ Bl_f⟩)
  · exact .inr (.inr ⟨rfl, key _ Bl_x⟩)
theorem veq_in (a b : Vx) : veq a b = tr true ∨ veq a b = tr false ∨ veq a b = fl 1 3 := by
  unfold veq; split
  · split
    · exact .inl rfl
    · exact .inr (.inr rfl)
  · exact .inr (.inl rfl)
theorem ne_vl {n : Nat} {a b : Vx} (ha : a.ok n) (hb : b.ok n) : Bl [oneB (oppN (cmpK (vl a n) (vl b n) n))] = ⟨1, (vlnot (veq a b)).v, (vlnot (veq a b)).x⟩ :=
  (Bl_opp (one_inj (veq_in a b) (cmpK_in _ _ _) (cmp_vl ha hb))).2
/-- lists of known states -/
def Kn (l : List UInt8) : Prop := ∀ i, i < l.length → l.getD i 0 = 48 ∨ l.getD i 0 = 49
theorem kn_vl {n : Nat} {a : Vx} (hx : a.x = 0#64) : Kn (vl a n) := fun i hi => by
  rw [vl_len] at hi
  rw [vl_get a n i hi]; unfold st; rw [hx]; cases a.v.getLsbD i <;> simp
theorem belK_num {l m : List UInt8} (hl : Kn l) (hm : Kn m) (hlm : l.length = m.length) : ∀ k, k ≤ l.length → belK l m false k = decide (num l k < num m k)
  | 0, _ => by unfold belK num; decide
  | k + 1, h => by
    have ih := belK_num hl hm hlm k (by omega)
    have a1 := num_lt l k
    have a2 := num_lt m k
    rw [num_step, num_step]
    show (if _ then _ else _) = _
    rcases hl k (by omega) with h1 | h1 <;> rcases hm k (by omega) with h2 | h2 <;> rw [h1, h2]
    · rw [if_pos rfl, ih]; simp [bit1]
    · rw [if_neg (by decide)]
      have : num l k + bit1 48 * 2 ^ k < num m k + bit1 49 * 2 ^ k := by simp [bit1]; omega
      rw [decide_eq_true this]; rfl
    · rw [if_neg (by decide)]
      have : ¬ num l k + bit1 49 * 2 ^ k < num m k + bit1 48 * 2 ^ k := by simp [bit1]; omega
      rw [decide_eq_false this]; rfl
    · rw [if_pos rfl, ih]
      simp [bit1]
theorem belK_low {l m : List UInt8} (s : Bool) : ∀ k, k < l.length → belK l m s k = belK l m false k
  | 0, _ => rfl
  | k + 1, h => by
    show (if _ then _ else _) = (if _ then _ else _)
    rw [belK_low s k (by omega), decide_eq_false (show ¬ k + 1 = l.length by omega), Bool.and_false, Bool.and_false]
theorem bel_vl {n : Nat} {a b : Vx} (s : Bool) (ha : a.ok n) (hb : b.ok n) (hx : a.x = 0#64) (hy : b.x = 0#64) : belK (vl a n) (vl b n) s n = ltb n s a b := by
  have ka := kn_vl (n := n) hx
  have kb := kn_vl (n := n) hy
  have na := num_vl ha hx
  have nb := num_vl hb hy
  have h1 := ha.lo
  have h2 := ha.hi
  cases s
  · have := belK_num ka kb (by rw [vl_len, vl_len]) n (by rw [vl_len]; exact Nat.le_refl _)
    rw [this, na, nb]
    unfold ltb
    rw [if_neg (by decide), Bool.eq_iff_iff, decide_eq_true_eq, decide_eq_true_eq, BitVec.lt_def]
  · obtain ⟨q, rfl⟩ : ∃ q, n = q + 1 := ⟨n - 1, by omega⟩
    have low : belK (vl a (q + 1)) (vl b (q + 1)) true q = decide (num (vl a (q + 1)) q < num (vl b (q + 1)) q) := by
      rw [belK_low true q (by rw [vl_len]; omega), belK_num ka kb (by rw [vl_len, vl_len]) q (by rw [vl_len]; omega)]
    have a1 := num_lt (vl a (q + 1)) q
    have a2 := num_lt (vl b (q + 1)) q
    have ta := num_lt (vl a (q + 1)) (q + 1)
    have tb := num_lt (vl b (q + 1)) (q + 1)
    rw [na] at ta
    rw [nb] at tb
    rw [num_step] at na nb
    unfold ltb
    rw [if_pos rfl]
    have es : (ext (q + 1) a.v).slt (ext (q + 1) b.v) = decide ((ext (q + 1) a.v).toInt < (ext (q + 1) b.v).toInt) := rfl
    rw [es, ext_toInt h1 h2 ta, ext_toInt h1 h2 tb]
    have hp : (2 : Int) ^ (q + 1) = ((2 ^ q : Nat) : Int) + ((2 ^ q : Nat) : Int) := by rw [Int.pow_succ]; push_cast; omega
    have hq1 : q + 1 - 1 = q := by omega
    rw [hp, hq1]
    show (if _ then _ else _) = _
    rcases ka q (by rw [vl_len]; omega) with e1 | e1 <;> rcases kb q (by rw [vl_len]; omega) with e2 | e2 <;> rw [e1] at na <;> rw [e2] at nb <;> rw [e1, e2]
    · rw [if_pos rfl, low]
      simp only [bit1, show ¬ (48 : UInt8) = 49 by decide, if_false, Nat.zero_mul, Nat.add_zero] at na nb
      rw [← na, ← nb, if_pos a1, if_pos a2, Bool.eq_iff_iff, decide_eq_true_eq, decide_eq_true_eq]; omega
    · rw [if_neg (by decide)]
      simp only [bit1, show ¬ (48 : UInt8) = 49 by decide, if_false, if_true, Nat.zero_mul, Nat.add_zero, Nat.one_mul] at na nb
      rw [← na, ← nb, if_pos a1, if_neg (by omega), vl_len, decide_eq_true rfl]
      symm; exact decide_eq_false (by omega)
    · rw [if_neg (by decide)]
      simp only [bit1, show ¬ (48 : UInt8) = 49 by decide, if_false, if_true, Nat.zero_mul, Nat.add_zero, Nat.one_mul] at na nb
      rw [← na, ← nb, if_pos a2, if_neg (by omega), vl_len, decide_eq_true rfl]
      symm; exact decide_eq_true (by omega)
    · rw [if_pos rfl, low]
      simp only [bit1, if_true, Nat.one_mul] at na nb
      rw [← na, ← nb, if_neg (by omega), if_neg (by omega), Bool.eq_iff_iff, decide_eq_true_eq, decide_eq_true_eq]; omega
theorem le_lt {n : Nat} {a b : Vx} (s : Bool) (ha : a.ok n) (hb : b.ok n) (hx : a.x = 0#64) (hy : b.x = 0#64) : (!ltb n s b a) = (ltb n s a b || (a.v == b.v && a.x == b.x)) := by
  have h1 := ha.lo
  have h2 := ha.hi
  rw [hx, hy, beq_self_eq_true, Bool.and_true]
  cases s
  · unfold ltb
    rw [if_neg (by decide), if_neg (by decide), Bool.eq_iff_iff]
    simp only [Bool.not_eq_true', decide_eq_false_iff_not, Bool.or_eq_true, decide_eq_true_eq, beq_iff_eq, BitVec.lt_def, ← BitVec.toNat_inj]
    omega
  · have ta := num_lt (vl a n) n
    have tb := num_lt (vl b n) n
    rw [num_vl ha hx] at ta
    rw [num_vl hb hy] at tb
    have hp : (2 : Int) ^ n = ((2 ^ n : Nat) : Int) := by push_cast; rfl
    unfold ltb
    rw [if_pos rfl, if_pos rfl]
    have e1 : (ext n a.v).slt (ext n b.v) = decide ((ext n a.v).toInt < (ext n b.v).toInt) := rfl
    have e2 : (ext n b.v).slt (ext n a.v) = decide ((ext n b.v).toInt < (ext n a.v).toInt) := rfl
    rw [e1, e2, ext_toInt h1 h2 ta, ext_toInt h1 h2 tb, hp, Bool.eq_iff_iff]
    simp only [Bool.not_eq_true', decide_eq_false_iff_not, Bool.or_eq_true, decide_eq_true_eq, beq_iff_eq, ← BitVec.toNat_inj]
    split <;> split <;> omega
end Go.Proofs.YtodldcdfdjooaaaGreatDoor
