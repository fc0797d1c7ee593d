/- The text of a vector spells this vector. No program here. -/
import Derived.Test.YtdpmojkpfnkcdaaDoorReadAll
import Derived.Test.YtdpmojkpfnkcdaaDoorText2
namespace Go.Proofs.YtdpmojkpfnkcdaaDoor
open Go Go.RowKit
set_option linter.unusedVariables false
theorem index_sep (q : List UInt8) : ∀ p : List UInt8, (∀ c ∈ p, c ≠ 39) → Lib.index (p ++ 39 :: q) [39] = p.length
  | [], _ => by simp [Lib.index]
  | c :: p, h => by
    have hc : c ≠ 39 := h c (by simp)
    have ih := index_sep q p (fun d hd => h d (by simp [hd]))
    have h1 : ¬ (39 : UInt8) = c := fun e => hc e.symm
    rw [List.cons_append, Lib.index, ih]
    simp [h1]
theorem cut_sep (p q : List UInt8) (h : ∀ c ∈ p, c ≠ 39) : Lib.cut (p ++ 39 :: q) [39] = (p, q, true) := by
  unfold Lib.cut
  rw [index_sep q p h, if_pos (by omega)]
  simp
/-- what is asked of a width's digits -/
def widthOk (n : Nat) : Bool := (Lib.itoa n).all (fun c => c != 39) && (Lib.itoa n).all (fun c => isDig c.toNat) && (decide (0 < (Lib.itoa n).length)) && (decide ((Lib.itoa n).length ≤ 2)) &&
  (((Lib.itoa n).getD 0 0).toNat != 48) && (rwd ⟨(Lib.itoa n).toArray⟩ (Lib.itoa n).length == n)
theorem width_ok : ∀ n, n < 65 → 1 ≤ n → widthOk n = true := by decide +kernel
theorem vput_v {n m k : Nat} (hn : n ≤ 64) (hm : m ≤ 64) (a p : Vx) (j : Nat) (hj : j < n) : (vput n m a k p).v.getLsbD j = if k ≤ j ∧ j < k + m then p.v.getLsbD (j - k) else a.v.getLsbD j := by
  have h64 : j < 64 := by omega
  simp only [vput, plc, BitVec.getLsbD_or, BitVec.getLsbD_and, BitVec.getLsbD_not, BitVec.getLsbD_shiftLeft, msk_bit hn, msk_bit hm, hj, h64, decide_true, Bool.true_and, Bool.and_true]
  by_cases h1 : j < k
  · simp [h1, show ¬ k ≤ j by omega]
  · by_cases h2 : j - k < m
    · simp [h1, h2, show k ≤ j by omega, show j < k + m by omega]
    · simp [h1, h2, show ¬ j < k + m by omega]
theorem vput_x {n m k : Nat} (hn : n ≤ 64) (hm : m ≤ 64) (a p : Vx) (j : Nat) (hj : j < n) : (vput n m a k p).x.getLsbD j = if k ≤ j ∧ j < k + m then p.x.getLsbD (j - k) else a.x.getLsbD j := by
  have h64 : j < 64 := by omega
  simp only [vput, plc, BitVec.getLsbD_or, BitVec.getLsbD_and, BitVec.getLsbD_not, BitVec.getLsbD_shiftLeft, msk_bit hn, msk_bit hm, hj, h64, decide_true, Bool.true_and, Bool.and_true]
  by_cases h1 : j < k
  · simp [h1, show ¬ k ≤ j by omega]
  · by_cases h2 : j - k < m
    · simp [h1, h2, show k ≤ j by omega, show j < k + m by omega]
    · simp [h1, h2, show ¬ j < k + m by omega]
def dgs (n : Nat) (a : Vx) : ByteArray := ⟨(hib n a n).toArray⟩
theorem dgs_size (n : Nat) (a : Vx) : (dgs n a).size = n := by
  show (hib n a n).toArray.size = n
  simp [hib_len]
theorem dgt_dgs (n : Nat) (a : Vx) (i : Nat) (hi : i < n) : dgt (dgs n a) i = (st a i).toNat := by
  unfold dgt
  rw [dgs_size]
  show ((hib n a n).toArray.toList.getD (n - 1 - i) 0).toNat = _
  rw [List.getD_eq_getElem?_getD]
  unfold hib
  simp [List.getElem?_range (show n - 1 - i < n by omega), show n - 1 - (n - 1 - i) = i by omega]
theorem dbits_st (a : Vx) (i : Nat) : (dbits 1 (st a i).toNat).v.getLsbD 0 = a.v.getLsbD i ∧ (dbits 1 (st a i).toNat).x.getLsbD 0 = a.x.getLsbD i ∧ ∀ r : Nat, 1 ≤ r → excB (dbits 1 (st a i).toNat) (r : Int) = false := by
  have hs : ∀ (v : BitVec 64) (r : Nat), 1 ≤ r → v = 0#64 ∨ v = 1#64 → v >>> r = 0#64 := by
    intro v r hr hv
    apply BitVec.eq_of_getLsbD_eq; intro j _
    rw [BitVec.getLsbD_ushiftRight]
    rcases hv with rfl | rfl
    · simp
    · rw [BitVec.getLsbD_one]; simp; omega
  have he : ∀ (d : Vx) (r : Nat), 1 ≤ r → (d.v = 0#64 ∨ d.v = 1#64) → excB d (r : Int) = false := by
    intro d r hr hv
    unfold excB
    rw [if_neg (by omega), Int.toNat_natCast, hs d.v r hr hv]; simp
  cases hv : a.v.getLsbD i <;> cases hx : a.x.getLsbD i
  · have e : st a i = 48 := by simp [st, hv, hx]
    rw [e]; exact ⟨by decide, by decide, fun r hr => he _ r hr (Or.inl (by decide))⟩
  · have e : st a i = 122 := by simp [st, hv, hx]
    rw [e]; exact ⟨by decide, by decide, fun r hr => he _ r hr (Or.inl (by decide))⟩
  · have e : st a i = 49 := by simp [st, hv, hx]
    rw [e]; exact ⟨by decide, by decide, fun r hr => he _ r hr (Or.inr (by decide))⟩
  · have e : st a i = 120 := by simp [st, hv, hx]
    rw [e]; exact ⟨by decide, by decide, fun r hr => he _ r hr (Or.inr (by decide))⟩
theorem rdB_dgs {n : Nat} (h2 : n ≤ 64) (a : Vx) : ∀ k, k ≤ n → ∀ j, j < k → (rdB n 1 (dgs n a) k).v.getLsbD j = a.v.getLsbD j ∧ (rdB n 1 (dgs n a) k).x.getLsbD j = a.x.getLsbD j := by
  intro k
  induction k with
  | zero => intro _ j hj; omega
  | succ k ih =>
    intro hk j hj
    have hd := dbits_st a k
    rw [← dgt_dgs n a k (by omega)] at hd
    rw [show rdB n 1 (dgs n a) (k + 1) = vput n 1 (rdB n 1 (dgs n a) k) (k * 1) (dbits 1 (dgt (dgs n a) k)) from rfl, Nat.mul_one]
    rw [vput_v h2 (by decide) _ _ j (by omega), vput_x h2 (by decide) _ _ j (by omega)]
    by_cases hjk : j = k
    · subst hjk
      rw [if_pos (by omega), if_pos (by omega), Nat.sub_self]
      exact ⟨hd.1, hd.2.1⟩
    · rw [if_neg (by omega), if_neg (by omega)]
      exact ih (by omega) j (by omega)
theorem rdB_all {n : Nat} {a : Vx} (h : a.ok n) : rdB n 1 (dgs n a) n = a :=
  Vx.same (rdB_ok h.lo h.hi 1 (dgs n a) n) h (rdB_dgs h.hi a n (Nat.le_refl n))
theorem st_ok (a : Vx) (i : Nat) : digOk 1 (st a i).toNat = true := by
  unfold st; split <;> split <;> decide
theorem extract_tail (c : UInt8) (l : List UInt8) : (⟨(c :: l).toArray⟩ : ByteArray).extract 1 (⟨(c :: l).toArray⟩ : ByteArray).size = ⟨l.toArray⟩ := by
  apply ByteArray.ext
  rw [ByteArray.data_extract]
  show (c :: l).toArray.extract 1 (c :: l).toArray.size = _
  simp
theorem spelt_txt {n : Nat} {a : Vx} (h : a.ok n) : Spelt ⟨(txt n a n).toArray⟩ ⟨(Lib.itoa n).toArray⟩ ⟨(98 :: hib n a n).toArray⟩ n := by
  have hw := width_ok n (by have := h.hi; omega) h.lo
  simp only [widthOk, Bool.and_eq_true, List.all_eq_true, decide_eq_true_eq, bne_iff_ne, beq_iff_eq] at hw
  obtain ⟨⟨⟨⟨⟨p1, p2⟩, p3⟩, p4⟩, p5⟩, p6⟩ := hw
  have h1 := h.lo
  have h2 := h.hi
  have sw : (⟨(Lib.itoa n).toArray⟩ : ByteArray).size = (Lib.itoa n).length := by show (Lib.itoa n).toArray.size = _; simp
  have sr : (⟨(98 :: hib n a n).toArray⟩ : ByteArray).size = n + 1 := by show (98 :: hib n a n).toArray.size = _; simp [hib_len]
  have ss : (⟨(txt n a n).toArray⟩ : ByteArray).size = (Lib.itoa n).length + 2 + n := by show (txt n a n).toArray.size = _; simp [txt_len]
  have ex : (⟨(98 :: hib n a n).toArray⟩ : ByteArray).extract 1 (⟨(98 :: hib n a n).toArray⟩ : ByteArray).size = dgs n a := extract_tail _ _
  have rz : ∀ hh, ((⟨(98 :: hib n a n).toArray⟩ : ByteArray)[0]'hh).toNat = 98 := fun _ => rfl
  have d1 : dw 98 = 1 := rfl
  refine { r0 := ⟨⟨(98 :: hib n a n).toArray⟩, ?_, ?_⟩, hs := by omega, w1 := by omega, w2 := ?_, w3 := ?_, hr := by omega, hwl := by omega, hrl := by omega, b100 := by rw [rz]; decide, z1 := by rw [rz]; decide, z2 := by rw [rz]; decide, hd := ?_, hn := ?_, h1 := h1, h2 := h2, hE := ?_ }
  · show Lib.cut (txt n a n) [39] = (Lib.itoa n, 98 :: hib n a n, true)
    have : txt n a n = Lib.itoa n ++ 39 :: (98 :: hib n a n) := by unfold txt; simp
    rw [this]; exact cut_sep _ _ p1
  · show Lib.trimPrefix (98 :: hib n a n) [115] = 98 :: hib n a n
    unfold Lib.trimPrefix Lib.hasPrefix; simp
  · have := byte_at ⟨(Lib.itoa n).toArray⟩ 0 (by omega)
    rw [← this]; exact p5
  · unfold allB; rw [List.all_eq_true]; exact p2
  · rw [rz, ex, d1]
    unfold allB dgs; rw [List.all_eq_true]
    intro c hc
    have hc' : c ∈ hib n a n := hc
    unfold hib at hc'
    obtain ⟨k, _, rfl⟩ := List.mem_map.1 hc'
    exact st_ok a _
  · rw [sw]; exact p6
  · rw [rz, ex, d1, dgs_size]
    intro i hi
    unfold rdE
    rw [dgt_dgs n a i hi]
    have := (dbits_st a i).2.2 (n - i) (by omega)
    rw [show (n : Int) - (i : Int) * ((1 : Nat) : Int) = ((n - i : Nat) : Int) from by omega]
    exact this
theorem reread_ok {n : Nat} {a : Vx} (h : a.ok n) {B : Nat} (w : World) (hG : Glob B w) :
    Calls Tryd.prog 39 #[.string ⟨(txt n a n).toArray⟩] w fun e w' => e = .returned (.tuple #[.agg #[.int .i64 n, .int .u64 (U a.v), .int .u64 (U a.x)], .int .i64 0]) ∧ Below w.heap.size w w' := by
  have hr := read_ok (spelt_txt h) w hG
  have ex : (⟨(98 :: hib n a n).toArray⟩ : ByteArray).extract 1 (⟨(98 :: hib n a n).toArray⟩ : ByteArray).size = dgs n a := extract_tail _ _
  have e : rdB n (dw 98) (dgs n a) (dgs n a).size = a := by rw [dgs_size]; exact rdB_all h
  rw [ex] at hr
  refine hr.mono fun e' w' ⟨he, hb⟩ => ⟨he.trans ?_, hb⟩
  show Ending.returned (Value.tuple #[.agg #[.int .i64 n, .int .u64 (U (rdB n (dw 98) (dgs n a) (dgs n a).size).v), .int .u64 (U (rdB n (dw 98) (dgs n a) (dgs n a).size).x)], .int .i64 0]) = _
  rw [e]
end Go.Proofs.YtdpmojkpfnkcdaaDoor
