/- If unknown bits become known, known bits of results stay: the operations of package bits, on words. No program here.
   The 23 results of well-formed vectors, and what becomes of them where unknown bits become known. No program here. -/
import Derived.Test.YtmaokbdjahgkiaaGreatDoorJoinProg
import Derived.Test.YtmaokbdjahgkiaaGreatDoorShiftMath
import Derived.Test.YtmaokbdjahgkiaaGreatDoorParts
namespace Go.Proofs.YtmaokbdjahgkiaaGreatDoor
open Go Go.RowKit
set_option linter.unusedVariables false
/-- y is known, and has the known bits of x -/
theorem vx_same {a b : Vx} (h : a.v = b.v) (k : a.x = b.x) : a = b := by cases a; cases b; simp_all
theorem bit_diff (a b : Vx) (i : Nat) : (diff1 a b).getLsbD i = ((a.v.getLsbD i ^^ b.v.getLsbD i) || (a.x.getLsbD i ^^ b.x.getLsbD i)) := by
  unfold diff1; rw [BitVec.getLsbD_or, BitVec.getLsbD_xor, BitVec.getLsbD_xor]
structure Kf (x y : Vx) : Prop where
  k : y.x = 0#64
  b : ∀ i, x.x.getLsbD i = false → y.v.getLsbD i = x.v.getLsbD i
theorem Kf.same {x y : Vx} (h : Kf x y) (hx : x.x = 0#64) : y = x := by
  refine vx_same ?_ (h.k.trans hx.symm)
  exact BitVec.eq_of_getLsbD_eq fun i hi => h.b i (by rw [hx]; simp)
theorem kf_self {x : Vx} (hx : x.x = 0#64) : Kf x x := ⟨hx, fun _ _ => rfl⟩
/-- what the law asks of two results -/
theorem Kf.law {x y : Vx} (h : Kf x y) : y.x &&& ~~~x.x = 0#64 ∧ (x.v ^^^ y.v) &&& ~~~x.x = 0#64 := by
  refine ⟨by rw [h.k]; simp, ?_⟩
  apply BitVec.eq_of_getLsbD_eq
  intro i hi
  rw [BitVec.getLsbD_and, BitVec.getLsbD_xor, BitVec.getLsbD_not]
  cases e : x.x.getLsbD i
  · rw [h.b i e]; simp
  · simp
theorem kf_mk {n : Nat} {x y : Vx} (hn : n ≤ 64) (hx : x.ok n) (hy : y.ok n) (h : ∀ i, i < n → y.x.getLsbD i = false ∧ (x.x.getLsbD i = false → y.v.getLsbD i = x.v.getLsbD i)) : Kf x y := by
  refine ⟨BitVec.eq_of_getLsbD_eq fun i hi => ?_, fun i e => ?_⟩
  · by_cases c : i < n
    · rw [(h i c).1]; simp
    · rw [hy.subx i (by omega)]; simp
  · by_cases c : i < n
    · exact (h i c).2 e
    · rw [hy.subv i (by omega), hx.subv i (by omega)]
theorem Kf.xb {x y : Vx} (h : Kf x y) (i : Nat) : y.x.getLsbD i = false := by rw [h.k]; simp
/-- all bits unknown -/
theorem kf_fl {n : Nat} {y : Vx} (h1 : 1 ≤ n) (hn : n ≤ 64) (hy : y.ok n) (hk : y.x = 0#64) : Kf (fl n 3) y :=
  kf_mk hn (fl_ok h1 hn 3) hy fun i hi => ⟨by rw [hk]; simp, fun e => by
    have : (fl n 3).x.getLsbD i = true := by unfold fl; simp [msk_bit hn, hi]
    rw [this] at e; cases e⟩
theorem kf_not {n : Nat} {a p : Vx} (ha : a.ok n) (hp : p.ok n) (h : Kf a p) : Kf (vnot n a) (vnot n p) :=
  kf_mk ha.hi (vnot_ok ha) (vnot_ok hp) fun i hi => by
    rw [(vnot_bit ha.hi a hi).1, (vnot_bit ha.hi a hi).2, (vnot_bit ha.hi p hi).1, (vnot_bit ha.hi p hi).2, h.xb i]
    refine ⟨rfl, fun e => ?_⟩
    rw [h.b i e, e]
theorem kf_and {n : Nat} {a b p q : Vx} (ha : a.ok n) (hb : b.ok n) (hp : p.ok n) (hq : q.ok n) (h : Kf a p) (k : Kf b q) : Kf (vand n a b) (vand n p q) :=
  kf_mk ha.hi (vand_ok ha) (vand_ok hp) fun i hi => by
    rw [(vand_bit ha.hi a b hi).1, (vand_bit ha.hi a b hi).2, (vand_bit ha.hi p q hi).1, (vand_bit ha.hi p q hi).2, h.xb i, k.xb i]
    have h1 := h.b i
    have k1 := k.b i
    revert h1 k1
    cases a.v.getLsbD i <;> cases a.x.getLsbD i <;> cases b.v.getLsbD i <;> cases b.x.getLsbD i <;> cases p.v.getLsbD i <;> cases q.v.getLsbD i <;> simp
theorem kf_or {n : Nat} {a b p q : Vx} (ha : a.ok n) (hb : b.ok n) (hp : p.ok n) (hq : q.ok n) (h : Kf a p) (k : Kf b q) : Kf (vor n a b) (vor n p q) :=
  kf_mk ha.hi (vor_ok ha hb) (vor_ok hp hq) fun i hi => by
    rw [(vor_bit ha.hi a b hi).1, (vor_bit ha.hi a b hi).2, (vor_bit ha.hi p q hi).1, (vor_bit ha.hi p q hi).2, h.xb i, k.xb i]
    have h1 := h.b i
    have k1 := k.b i
    revert h1 k1
    cases a.v.getLsbD i <;> cases a.x.getLsbD i <;> cases b.v.getLsbD i <;> cases b.x.getLsbD i <;> cases p.v.getLsbD i <;> cases q.v.getLsbD i <;> simp
theorem kf_xor {n : Nat} {a b p q : Vx} (ha : a.ok n) (hb : b.ok n) (hp : p.ok n) (hq : q.ok n) (h : Kf a p) (k : Kf b q) : Kf (vxor n a b) (vxor n p q) :=
  kf_mk ha.hi (vxor_ok ha hb) (vxor_ok hp hq) fun i hi => by
    rw [(vxor_bit ha.hi a b hi).1, (vxor_bit ha.hi a b hi).2, (vxor_bit ha.hi p q hi).1, (vxor_bit ha.hi p q hi).2, h.xb i, k.xb i]
    have h1 := h.b i
    have k1 := k.b i
    revert h1 k1
    cases a.v.getLsbD i <;> cases a.x.getLsbD i <;> cases b.v.getLsbD i <;> cases b.x.getLsbD i <;> cases p.v.getLsbD i <;> cases q.v.getLsbD i <;> simp
theorem and_ones (x : BitVec 64) : x &&& ~~~0#64 = x := by
  apply BitVec.eq_of_getLsbD_eq
  intro i hi
  rw [BitVec.getLsbD_and, BitVec.getLsbD_not, decide_eq_true hi]
  simp only [BitVec.getLsbD_zero, Bool.not_false, Bool.and_true]
theorem tr_x (t : Bool) : (tr t).x = 0#64 := rfl
theorem redor_k {p : Vx} (h : p.x = 0#64) : redor p = tr (!(p.v == 0#64)) := by
  unfold redor tru
  rw [h, BitVec.or_zero]
  by_cases c : p.v = 0#64
  · rw [if_pos c, if_pos rfl, beq_iff_eq.2 c]; rfl
  · have : ¬ p.v &&& ~~~0#64 = 0#64 := by rw [and_ones]; exact c
    rw [if_neg c, if_neg this, if_neg (by decide), if_pos rfl, beq_eq_false_iff_ne.2 c]; rfl
theorem kf_redor {a p : Vx} (h : Kf a p) : Kf (redor a) (redor p) := by
  rw [redor_k h.k]
  unfold redor
  by_cases c : a.v ||| a.x = 0#64
  · have ev : a.v = 0#64 := BitVec.eq_of_getLsbD_eq fun i hi => by
      have := congrArg (fun z : BitVec 64 => z.getLsbD i) c
      simp only [BitVec.getLsbD_or, BitVec.getLsbD_zero, Bool.or_eq_false_iff] at this
      rw [this.1]; simp
    have ex : a.x = 0#64 := BitVec.eq_of_getLsbD_eq fun i hi => by
      have := congrArg (fun z : BitVec 64 => z.getLsbD i) c
      simp only [BitVec.getLsbD_or, BitVec.getLsbD_zero, Bool.or_eq_false_iff] at this
      rw [this.2]; simp
    have e := h.same ex
    have t0 : tru a = 0 := by unfold tru; rw [if_pos c]
    rw [if_pos t0, e, ev]
    exact kf_self rfl
  · by_cases d : a.v &&& ~~~a.x = 0#64
    · have t0 : tru a = -1 := by unfold tru; rw [if_neg c, if_pos d]
      rw [t0, if_neg (by decide), if_neg (by decide)]
      exact kf_fl (by decide) (by decide) (tr_ok _) rfl
    · have t0 : tru a = 1 := by unfold tru; rw [if_neg c, if_neg d]
      have : ¬ p.v = 0#64 := fun e => d (BitVec.eq_of_getLsbD_eq fun i hi => by
        rw [BitVec.getLsbD_and, BitVec.getLsbD_not]
        cases ex : a.x.getLsbD i
        · have := h.b i ex
          rw [e] at this
          rw [← this]; simp
        · simp)
      rw [t0, if_neg (by decide), if_pos rfl, beq_eq_false_iff_ne.2 this]
      exact kf_self rfl
theorem kf_redand {n : Nat} {a p : Vx} (ha : a.ok n) (hp : p.ok n) (h : Kf a p) : Kf (vnot 1 (redor (vnot n a))) (vnot 1 (redor (vnot n p))) :=
  kf_not (redor_ok _) (redor_ok _) (kf_redor (kf_not ha hp h))
theorem kf_lnot {a p : Vx} (h : Kf a p) : Kf (vlnot a) (vlnot p) := kf_not (redor_ok _) (redor_ok _) (kf_redor h)
theorem kf_redxor {a p : Vx} (h : Kf a p) : Kf (vredxor a) (vredxor p) := by
  by_cases c : a.x = 0#64
  · rw [h.same c]; refine kf_self ?_
    unfold vredxor; rw [if_pos c]; rfl
  · have e : vredxor a = fl 1 3 := if_neg c
    have e2 : vredxor p = tr (par p.v 64) := if_pos h.k
    rw [e, e2]
    exact kf_fl (by decide) (by decide) (tr_ok _) rfl
theorem kf_vop {n : Nat} {a b p q : Vx} (f : BitVec 64 → BitVec 64 → BitVec 64) (h1 : 1 ≤ n) (hn : n ≤ 64) (h : Kf a p) (k : Kf b q) : Kf (vop n f a b) (vop n f p q) := by
  have e : vop n f p q = kv n (f p.v q.v) := vop_kv f h.k k.k
  by_cases c : a.x = 0#64 ∧ b.x = 0#64
  · rw [h.same c.1, k.same c.2]; refine kf_self ?_
    rw [vop_kv f c.1 c.2]; rfl
  · rw [show vop n f a b = fl n 3 from if_neg c, e]
    exact kf_fl h1 hn (kv_ok h1 hn _) rfl
theorem kf_veq {a b p q : Vx} (h : Kf a p) (k : Kf b q) : Kf (veq a b) (veq p q) := by
  have ek : veq p q = tr (diff1 p q == 0#64) := by
    unfold veq
    rw [h.k, k.k, BitVec.or_zero]
    have : diff1 p q &&& ~~~0#64 = diff1 p q := and_ones _
    rw [this]
    by_cases c : diff1 p q = 0#64
    · rw [if_pos c, if_pos rfl, beq_iff_eq.2 c]
    · rw [if_neg c, beq_eq_false_iff_ne.2 c]
  by_cases c : diff1 a b &&& ~~~(a.x ||| b.x) = 0#64
  · by_cases d : a.x ||| b.x = 0#64
    · have ex : a.x = 0#64 ∧ b.x = 0#64 := by
        constructor <;> exact BitVec.eq_of_getLsbD_eq fun i hi => by
          have := congrArg (fun z : BitVec 64 => z.getLsbD i) d
          simp only [BitVec.getLsbD_or, BitVec.getLsbD_zero, Bool.or_eq_false_iff] at this
          simp [this]
      rw [h.same ex.1, k.same ex.2]
      refine kf_self ?_
      unfold veq; rw [if_pos c, if_pos d]; rfl
    · rw [show veq a b = fl 1 3 from by unfold veq; rw [if_pos c, if_neg d], ek]
      exact kf_fl (by decide) (by decide) (tr_ok _) rfl
  · have : ¬ diff1 p q = 0#64 := fun e => c (BitVec.eq_of_getLsbD_eq fun i hi => by
      have e1 := congrArg (fun z : BitVec 64 => z.getLsbD i) e
      simp only [bit_diff, h.xb, k.xb, BitVec.getLsbD_zero] at e1
      rw [BitVec.getLsbD_and, BitVec.getLsbD_not, BitVec.getLsbD_or, bit_diff]
      have h1 := h.b i
      have k1 := k.b i
      revert e1 h1 k1
      cases a.v.getLsbD i <;> cases a.x.getLsbD i <;> cases b.v.getLsbD i <;> cases b.x.getLsbD i <;> cases p.v.getLsbD i <;> cases q.v.getLsbD i <;> simp)
    rw [show veq a b = tr false from by unfold veq; rw [if_neg c], ek, beq_eq_false_iff_ne.2 this]
    exact kf_self rfl
theorem kf_vlt {n : Nat} {a b p q : Vx} (s : Bool) (h : Kf a p) (k : Kf b q) : Kf (vlt n s a b) (vlt n s p q) := by
  have e : vlt n s p q = tr (ltb n s p q) := if_pos ⟨h.k, k.k⟩
  by_cases c : a.x = 0#64 ∧ b.x = 0#64
  · rw [h.same c.1, k.same c.2]; refine kf_self ?_
    rw [show vlt n s a b = tr (ltb n s a b) from if_pos c]; rfl
  · rw [show vlt n s a b = fl 1 3 from if_neg c, e]
    exact kf_fl (by decide) (by decide) (tr_ok _) rfl
theorem kf_vshl {n : Nat} {a p : Vx} (h1 : 1 ≤ n) (hn : n ≤ 64) (h : Kf a p) (k : Nat) : Kf (vshl n a k) (vshl n p k) := by
  have e : ∀ (w : BitVec 64) {i : Nat}, i < n → (w <<< k &&& msk n).getLsbD i = (!decide (i < k) && w.getLsbD (i - k)) := fun w {i} hi => by
    rw [BitVec.getLsbD_and, msk_bit hn, BitVec.getLsbD_shiftLeft, decide_eq_true hi, decide_eq_true (show i < 64 by omega)]; simp
  refine kf_mk hn (vshl_okv h1 hn a k) (vshl_okv h1 hn p k) fun i hi => ?_
  show (p.x <<< k &&& msk n).getLsbD i = false ∧ ((a.x <<< k &&& msk n).getLsbD i = false → (p.v <<< k &&& msk n).getLsbD i = (a.v <<< k &&& msk n).getLsbD i)
  rw [e p.x hi, e a.x hi, e p.v hi, e a.v hi, h.xb]
  refine ⟨by simp, fun h2 => ?_⟩
  by_cases c : i < k
  · rw [decide_eq_true c]; rfl
  · rw [decide_eq_false c] at h2 ⊢
    rw [h.b _ (by simpa using h2)]
theorem kf_vshr {n : Nat} {a p : Vx} (h1 : 1 ≤ n) (hn : n ≤ 64) (h : Kf a p) (k : Nat) : Kf (vshr n a k) (vshr n p k) := by
  have e : ∀ (w : BitVec 64) {i : Nat}, i < n → (w >>> k &&& msk n).getLsbD i = w.getLsbD (k + i) := fun w {i} hi => by
    rw [BitVec.getLsbD_and, msk_bit hn, BitVec.getLsbD_ushiftRight, decide_eq_true hi]; simp
  refine kf_mk hn (vshr_ok h1 hn a k) (vshr_ok h1 hn p k) fun i hi => ?_
  show (p.x >>> k &&& msk n).getLsbD i = false ∧ ((a.x >>> k &&& msk n).getLsbD i = false → (p.v >>> k &&& msk n).getLsbD i = (a.v >>> k &&& msk n).getLsbD i)
  rw [e p.x hi, e a.x hi, e p.v hi, e a.v hi, h.xb]
  exact ⟨rfl, h.b _⟩
theorem kf_vsar {n : Nat} {a p : Vx} (h1 : 1 ≤ n) (hn : n ≤ 64) (h : Kf a p) (k : Nat) : Kf (vsar n a k) (vsar n p k) := by
  have e : ∀ (w : BitVec 64) {i : Nat}, i < n → ((ext n w).sshiftRight k &&& msk n).getLsbD i = w.getLsbD (min (k + i) (n - 1)) := fun w {i} hi => by
    rw [BitVec.getLsbD_and, msk_bit hn, BitVec.getLsbD_sshiftRight, decide_eq_true hi, decide_eq_false (show ¬ 64 ≤ i by omega)]
    by_cases c : k + i < 64
    · rw [if_pos c, ext_sgn h1 hn w c]; simp
    · rw [if_neg c, BitVec.msb_eq_getLsbD_last, ext_sgn h1 hn w (by omega), show min (64 - 1) (n - 1) = n - 1 by omega, show min (k + i) (n - 1) = n - 1 by omega]; simp
  refine kf_mk hn (vsar_ok h1 hn a k) (vsar_ok h1 hn p k) fun i hi => ?_
  show ((ext n p.x).sshiftRight k &&& msk n).getLsbD i = false ∧ (((ext n a.x).sshiftRight k &&& msk n).getLsbD i = false → ((ext n p.v).sshiftRight k &&& msk n).getLsbD i = ((ext n a.v).sshiftRight k &&& msk n).getLsbD i)
  rw [e p.x hi, e a.x hi, e p.v hi, e a.v hi, h.xb]
  exact ⟨rfl, h.b _⟩
/-- a shift by a vector -/
theorem kf_shift {n : Nat} {a p c r : Vx} (op : Nat → Vx → Nat → Vx) (h1 : 1 ≤ n) (hn : n ≤ 64) (hok : ∀ k, (op n p k).ok n) (hk : ∀ k, (op n p k).x = 0#64) (hop : ∀ k, Kf (op n a k) (op n p k)) (k : Kf c r) :
    Kf (if c.x = 0#64 then op n a c.v.toNat else fl n 3) (if r.x = 0#64 then op n p r.v.toNat else fl n 3) := by
  rw [if_pos k.k]
  by_cases e : c.x = 0#64
  · rw [if_pos e, k.same e]; exact hop _
  · rw [if_neg e]; exact kf_fl h1 hn (hok _) (hk _)
theorem tru_k {r : Vx} (h : r.x = 0#64) : tru r = if r.v = 0#64 then 0 else 1 := by
  unfold tru
  rw [h, BitVec.or_zero]
  by_cases c : r.v = 0#64
  · rw [if_pos c, if_pos c]
  · rw [if_neg c, if_neg c, if_neg (by rw [and_ones]; exact c)]
theorem kf_vcond {n : Nat} {a b c p q r : Vx} (ha : a.ok n) (hb : b.ok n) (hp : p.ok n) (hq : q.ok n) (h : Kf a p) (k : Kf b q) (l : Kf c r) : Kf (vcond n c a b) (vcond n r p q) := by
  have hn := ha.hi
  have com : ∀ y : Vx, y.ok n → y.x = 0#64 → (y = p ∨ y = q) → Kf (jn n (one1 a &&& one1 b) (zero1 n a &&& zero1 n b)) y := fun y hy hk hyy => by
    refine kf_mk hn (jn_ok ha.lo hn (sub_and (sub_one1 ha))) hy fun i hi => ⟨by rw [hk]; simp, fun e => ?_⟩
    rw [jn_v hn hi]
    rw [jn_x hn hi] at e
    rw [BitVec.getLsbD_and, BitVec.getLsbD_and, one1_bit a (by omega), one1_bit b (by omega), zero1_bit a hn hi, zero1_bit b hn hi] at e ⊢
    have h1 := h.b i
    have k1 := k.b i
    rcases hyy with rfl | rfl <;> revert e h1 k1 <;>
      cases a.v.getLsbD i <;> cases a.x.getLsbD i <;> cases b.v.getLsbD i <;> cases b.x.getLsbD i <;> simp
  have hc : vcond n r p q = if r.v = 0#64 then q else p := by
    unfold vcond
    rw [tru_k l.k]
    by_cases e : r.v = 0#64
    · rw [if_pos e, if_pos rfl, if_pos e]
    · rw [if_neg e, if_neg (by decide), if_pos rfl, if_neg e]
  rw [hc]
  have hr := kf_redor l
  unfold vcond
  by_cases t0 : tru c = 0
  · rw [if_pos t0]
    have : r.v = 0#64 := by
      have e : redor c = tr false := by unfold redor; rw [if_pos t0]
      rw [e, redor_k l.k] at hr
      cases z : (r.v == 0#64)
      · rw [z] at hr
        have := hr.b 0 (by decide)
        exact absurd this (by decide +kernel)
      · exact beq_iff_eq.1 z
    rw [if_pos this]; exact k
  · by_cases t1 : tru c = 1
    · rw [if_neg t0, if_pos t1]
      have : ¬ r.v = 0#64 := fun e9 => by
        have e : redor c = tr true := by unfold redor; rw [if_neg t0, if_pos t1]
        rw [e, redor_k l.k, beq_iff_eq.2 e9] at hr
        have := hr.b 0 (by decide)
        revert this; decide +kernel
      rw [if_neg this]; exact h
    · rw [if_neg t0, if_neg t1]
      split
      · exact com q hq k.k (.inr rfl)
      · exact com p hp h.k (.inl rfl)
theorem kf_cut {n m : Nat} {a p : Vx} (h1 : 1 ≤ m) (hm : m ≤ 64) (h : Kf a p) : Kf (vcut m a) (vcut m p) := by
  refine kf_mk hm (vcut_ok h1 hm a) (vcut_ok h1 hm p) fun i hi => ?_
  show (p.x &&& msk m).getLsbD i = false ∧ ((a.x &&& msk m).getLsbD i = false → (p.v &&& msk m).getLsbD i = (a.v &&& msk m).getLsbD i)
  simp only [BitVec.getLsbD_and, msk_bit hm, decide_eq_true hi, Bool.and_true, h.xb]
  exact ⟨trivial, h.b i⟩
theorem kf_ext {n m : Nat} {a p : Vx} (n1 : 1 ≤ n) (n2 : n ≤ 64) (h1 : 1 ≤ m) (hm : m ≤ 64) (h : Kf a p) : Kf (vext n m a) (vext n m p) := by
  refine kf_mk hm (vext_ok h1 hm n a) (vext_ok h1 hm n p) fun i hi => ?_
  show (ext n p.x &&& msk m).getLsbD i = false ∧ ((ext n a.x &&& msk m).getLsbD i = false → (ext n p.v &&& msk m).getLsbD i = (ext n a.v &&& msk m).getLsbD i)
  simp only [BitVec.getLsbD_and, msk_bit hm, decide_eq_true hi, Bool.and_true, ext_sgn n1 n2 _ (show i < 64 by omega), h.xb]
  exact ⟨trivial, h.b _⟩
end Go.Proofs.YtmaokbdjahgkiaaGreatDoor
namespace Go.Proofs.YtmaokbdjahgkiaaGreatDoor
open Go Go.RowKit
set_option linter.unusedVariables false
/-- a vector of a width, as its cells hold it -/
def Rv (n : Nat) (a : Vx) : Rb := ⟨(n : Int), a.v, a.x⟩
/-- the results of the 23 operations, in their order -/
def resV (n : Nat) (s : Bool) (a b c : Vx) : List Rb :=
  [Rv n (vnot n a), Rv n (vand n a b), Rv n (vor n a b), Rv n (vxor n a b), Rv 1 (vnot 1 (redor (vnot n a))), Rv 1 (redor a), Rv 1 (vredxor a),
   Rv 1 (vlnot a), Rv 1 (vand 1 (redor a) (redor c)), Rv 1 (vor 1 (redor a) (redor c)), Rv n (vop n (· - ·) (kv n 0#64) a), Rv n (vop n (· + ·) a b), Rv n (vop n (· - ·) a b), Rv n (vop n (· * ·) a b),
   Rv n (if c.x = 0#64 then vshl n a c.v.toNat else fl n 3), Rv n (if c.x = 0#64 then vshr n a c.v.toNat else fl n 3), Rv n (if c.x = 0#64 then vsar n a c.v.toNat else fl n 3),
   Rv 1 (veq a b), Rv 1 (vlnot (veq a b)), Rv 1 (vlt n s a b), Rv 1 (vlnot (vlt n s b a)), Rv n (vcond n c a b), Rv 64 (if s then vext n 64 a else vcut 64 a)]
/-- what the law asks of two results -/
def RfR (x y : Rb) : Prop := x.W = y.W ∧ y.x &&& ~~~x.x = 0#64 ∧ (x.v ^^^ y.v) &&& ~~~x.x = 0#64
theorem Kf.rf {x y : Vx} (h : Kf x y) (n : Nat) : RfR (Rv n x) (Rv n y) := ⟨rfl, h.law.1, h.law.2⟩
theorem ext_0 (n : Nat) : ext n 0#64 = 0#64 := by unfold ext; simp
theorem vshl_x0 {n : Nat} {p : Vx} (h : p.x = 0#64) (k : Nat) : (vshl n p k).x = 0#64 := by show p.x <<< k &&& msk n = 0#64; rw [h]; simp
theorem vshr_x0 {n : Nat} {p : Vx} (h : p.x = 0#64) (k : Nat) : (vshr n p k).x = 0#64 := by show p.x >>> k &&& msk n = 0#64; rw [h]; simp
theorem vsar_x0 {n : Nat} {p : Vx} (h : p.x = 0#64) (k : Nat) : (vsar n p k).x = 0#64 := by show (ext n p.x).sshiftRight k &&& msk n = 0#64; rw [h, ext_0]; simp
theorem resV_len (n : Nat) (s : Bool) (a b c : Vx) : (resV n s a b c).length = 23 := rfl
theorem resV_ref {n m : Nat} (s : Bool) {a b c p q r : Vx} (ha : a.ok n) (hb : b.ok n) (hc : c.ok m) (hp : p.ok n) (hq : q.ok n) (hr : r.ok m) (h : Kf a p) (k : Kf b q) (l : Kf c r) (z : Rb) :
    ∀ j, j < 23 → RfR ((resV n s a b c).getD j z) ((resV n s p q r).getD j z) := by
  intro j hj
  match j, hj with
  | 0, _ => exact (kf_not ha hp h).rf n
  | 1, _ => exact (kf_and ha hb hp hq h k).rf n
  | 2, _ => exact (kf_or ha hb hp hq h k).rf n
  | 3, _ => exact (kf_xor ha hb hp hq h k).rf n
  | 4, _ => exact (kf_redand ha hp h).rf 1
  | 5, _ => exact (kf_redor h).rf 1
  | 6, _ => exact (kf_redxor h).rf 1
  | 7, _ => exact (kf_lnot h).rf 1
  | 8, _ => exact (kf_and (redor_ok _) (redor_ok _) (redor_ok _) (redor_ok _) (kf_redor h) (kf_redor l)).rf 1
  | 9, _ => exact (kf_or (redor_ok _) (redor_ok _) (redor_ok _) (redor_ok _) (kf_redor h) (kf_redor l)).rf 1
  | 10, _ => exact (kf_vop (· - ·) ha.lo ha.hi (kf_self rfl) h).rf n
  | 11, _ => exact (kf_vop (· + ·) ha.lo ha.hi h k).rf n
  | 12, _ => exact (kf_vop (· - ·) ha.lo ha.hi h k).rf n
  | 13, _ => exact (kf_vop (· * ·) ha.lo ha.hi h k).rf n
  | 14, _ => exact (kf_shift vshl ha.lo ha.hi (vshl_ok ha.lo ha.hi p) (vshl_x0 h.k) (kf_vshl ha.lo ha.hi h) l).rf n
  | 15, _ => exact (kf_shift vshr ha.lo ha.hi (vshr_ok ha.lo ha.hi p) (vshr_x0 h.k) (kf_vshr ha.lo ha.hi h) l).rf n
  | 16, _ => exact (kf_shift vsar ha.lo ha.hi (vsar_ok ha.lo ha.hi p) (vsar_x0 h.k) (kf_vsar ha.lo ha.hi h) l).rf n
  | 17, _ => exact (kf_veq h k).rf 1
  | 18, _ => exact (kf_lnot (kf_veq h k)).rf 1
  | 19, _ => exact (kf_vlt s h k).rf 1
  | 20, _ => exact (kf_lnot (kf_vlt s k h)).rf 1
  | 21, _ => exact (kf_vcond ha hb hp hq h k l).rf n
  | 22, _ =>
    cases s
    · exact (kf_cut (n := n) (by decide) (by decide) h).rf 64
    · exact (kf_ext ha.lo ha.hi (by decide) (by decide) h).rf 64
  | j + 23, h => exact absurd h (by omega)
/-- the closure's vector: known, and it has the known bits -/
theorem kf_fix {n : Nat} {a : Vx} {u : BitVec 64} (ha : a.ok n) : Kf a ⟨a.v &&& ~~~a.x ||| u &&& a.x, 0#64⟩ := by
  refine ⟨rfl, fun i e => ?_⟩
  show (a.v &&& ~~~a.x ||| u &&& a.x).getLsbD i = a.v.getLsbD i
  rw [BitVec.getLsbD_or, BitVec.getLsbD_and, BitVec.getLsbD_and, BitVec.getLsbD_not, e]
  by_cases c : i < 64
  · simp [c]
  · simp [BitVec.getLsbD_of_ge, show 64 ≤ i by omega]
theorem fix_ok {n : Nat} {a : Vx} {u : BitVec 64} (ha : a.ok n) : (⟨a.v &&& ~~~a.x ||| u &&& a.x, 0#64⟩ : Vx).ok n :=
  ok_mk ha.lo ha.hi (sub_or (sub_and ((sub_iff ha.hi _).2 ha.v)) (sub_and' ((sub_iff ha.hi _).2 ha.x))) (sub_zero n)
end Go.Proofs.YtmaokbdjahgkiaaGreatDoor
