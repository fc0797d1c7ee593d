/- Texts of messages, taken apart: plain facts. -/
import Derived.Test.YtmememehlfbgaaaDoorNoteX
import Derived.Test.YtmememehlfbgaaaDoorNoteTk
import Derived.Lib.IndexMore
namespace Go.Proofs.YtmememehlfbgaaaDoor
open Go Go.RowKit
set_option linter.unusedVariables false
theorem idx_at {c : UInt8} : ∀ (a r : List UInt8), (∀ x ∈ a, x ≠ c) → Lib.indexByte (a ++ c :: r) c = (a.length : Int)
  | [], r, _ => by simp [Lib.indexByte]
  | b :: a, r, h => by
    have ih := idx_at a r (fun x hx => h x (by simp [hx]))
    have hb : (b == c) = false := by simpa using h b (by simp)
    show Lib.indexByte (b :: (a ++ c :: r)) c = _
    unfold Lib.indexByte
    rw [hb, ih]
    simp only [Bool.false_eq_true, if_false]
    rw [if_neg (by simp)]
    simp
theorem idx_no {c : UInt8} : ∀ (a : List UInt8), (∀ x ∈ a, x ≠ c) → Lib.indexByte a c = -1
  | [], _ => rfl
  | b :: a, h => by
    have ih := idx_no a (fun x hx => h x (by simp [hx]))
    have hb : (b == c) = false := by simpa using h b (by simp)
    unfold Lib.indexByte
    rw [hb, ih]; rfl
theorem cut_at {c : UInt8} (a r : List UInt8) (h : ∀ x ∈ a, x ≠ c) : Lib.cut (a ++ c :: r) [c] = (a, r, true) := by
  unfold Lib.cut
  rw [Lib.index_one, idx_at a r h, if_pos (by omega)]
  simp
theorem cut_no {c : UInt8} (a : List UInt8) (h : ∀ x ∈ a, x ≠ c) : Lib.cut a [c] = (a, [], false) := by
  unfold Lib.cut
  rw [Lib.index_one, idx_no a h, if_neg (by omega)]
theorem dec_wi (k : Nat) : ∀ n : Nat, n ≤ k → wi 48 57 (Lib.decDigits n) = true := by
  have hd : ∀ m : Nat, m < 10 → 48 ≤ (UInt8.ofNat (48 + m)).toNat ∧ (UInt8.ofNat (48 + m)).toNat ≤ 57 := fun m hm => by simp; omega
  induction k with
  | zero =>
    intro n h
    have := hd n (by omega)
    rw [dec_small n (by omega)]; unfold wi; simp only [List.all_cons, List.all_nil, Bool.and_true, Bool.and_eq_true, decide_eq_true_eq]; exact this
  | succ k ih =>
    intro n h
    by_cases h10 : n < 10
    · have := hd n h10
      rw [dec_small n h10]; unfold wi; simp only [List.all_cons, List.all_nil, Bool.and_true, Bool.and_eq_true, decide_eq_true_eq]; exact this
    · have := hd (n % 10) (by omega)
      rw [dec_big n h10, wi_snoc, ih (n / 10) (by omega)]
      simp only [Bool.true_and, Bool.and_eq_true, decide_eq_true_eq]; exact this
def numL (l : List UInt8) : Nat := l.foldl (fun a c => min (a * 10 + (c.toNat - 48)) 16002) 0
theorem numL_snoc (l : List UInt8) (c : UInt8) : numL (l ++ [c]) = min (numL l * 10 + (c.toNat - 48)) 16002 := by unfold numL; rw [List.foldl_append]; rfl
theorem numF_take (s : ByteArray) (k : Nat) (hk : k ≤ s.size) : numF s k = numL (s.data.toList.take k) := by
  induction k with
  | zero => rfl
  | succ k ih =>
    rw [tk_snoc s k (by omega), numL_snoc, ← ih (by omega)]
    show min (numF s k * 10 + ((s.data[k]!).toNat - 48)) 16002 = _
    rw [get_of_lt s k (by omega)]
theorem numF_all (s : ByteArray) : numF s s.size = numL s.data.toList := by
  rw [numF_take s s.size (Nat.le_refl _), List.take_of_length_le (by simp)]
theorem numL_dec (k : Nat) : ∀ n : Nat, n ≤ k → n ≤ 16002 → numL (Lib.decDigits n) = n := by
  have hd : ∀ m : Nat, m < 10 → (UInt8.ofNat (48 + m)).toNat - 48 = m := fun m hm => by simp; omega
  induction k with
  | zero => intro n h _; obtain rfl : n = 0 := by omega
            rw [dec_small 0 (by omega)]; decide
  | succ k ih =>
    intro n h h2
    by_cases h10 : n < 10
    · rw [dec_small n h10]
      show min (0 * 10 + ((UInt8.ofNat (48 + n)).toNat - 48)) 16002 = n
      rw [hd n h10]; omega
    · rw [dec_big n h10, numL_snoc, ih (n / 10) (by omega) (by omega), hd (n % 10) (by omega)]
      omega
theorem dec_head (k : Nat) : ∀ n : Nat, n ≤ k → 1 ≤ n → ∃ c r, Lib.decDigits n = c :: r ∧ c.toNat ≠ 48 := by
  induction k with
  | zero => intro n h h1; omega
  | succ k ih =>
    intro n h h1
    by_cases h10 : n < 10
    · exact ⟨_, [], dec_small n h10, by simp; omega⟩
    · obtain ⟨c, r, e, hc⟩ := ih (n / 10) (by omega) (by omega)
      exact ⟨c, r ++ [UInt8.ofNat (48 + n % 10)], by rw [dec_big n h10, e]; rfl, hc⟩
theorem wi_ne {lo hi : Nat} {l : List UInt8} (h : wi lo hi l = true) (c : UInt8) (hc : c.toNat < lo ∨ hi < c.toNat) : ∀ x ∈ l, x ≠ c := by
  intro x hx e
  subst e
  unfold wi at h
  have := List.all_eq_true.1 h x hx
  simp only [Bool.and_eq_true, decide_eq_true_eq] at this
  omega
theorem words_no32 : ∀ j : Fin 23, ∀ x ∈ wordsL.getD j.1 [], x ≠ 32 := by decide
theorem code_of {j : Nat} (h1 : 1 ≤ j) (h2 : j < 23) : codeF (wordB j).data.toList = j := by
  exact (by decide : ∀ j : Fin 23, codeF (wordB j.1).data.toList = j.1) ⟨j, h2⟩
theorem itoa_nat (n : Int) (h : 0 ≤ n) : Lib.itoa n = Lib.decDigits n.toNat := by unfold Lib.itoa; rw [if_neg (by omega)]
end Go.Proofs.YtmememehlfbgaaaDoor
