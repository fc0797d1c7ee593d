/- Package note: number and code. -/
import Derived.Test.YtmememehlfbgaaaDoorNoteR
import Derived.Test.YtmememehlfbgaaaDoorPlaceMath
namespace Go.Proofs.YtmememehlfbgaaaDoor
open Go Go.RowKit
set_option linter.unusedVariables false
/-- the number of the first k digits; at most 16002 -/
def numF (s : ByteArray) : Nat → Nat
  | 0 => 0
  | k + 1 => min (numF s k * 10 + ((s.data[k]!).toNat - 48)) 16002
theorem numF_le (s : ByteArray) (k : Nat) : numF s k ≤ 16002 := by
  cases k with
  | zero => exact Nat.zero_le _
  | succ k => exact Nat.min_le_right _ _
theorem ret_i {a b : Int} (h : a = b) : Ending.returned (.int .i64 a) = .returned (.int .i64 b) := by rw [h]
theorem dig_at {s : ByteArray} (h : wi 48 57 s.data.toList = true) (k : Nat) (hk : k < s.size) : 48 ≤ s[k].toNat ∧ s[k].toNat ≤ 57 := by
  unfold wi at h
  have h2 := List.all_eq_true.1 h s.data.toList[k] (List.getElem_mem (by simpa using hk))
  simp only [Bool.and_eq_true, decide_eq_true_eq] at h2
  exact h2
/-- the error code of a word -/
def codeF (l : List UInt8) : Nat := if wordsL.findIdx (· == l) < 23 then wordsL.findIdx (· == l) else 0
theorem codeF_at {l : List UInt8} {k : Nat} (hk : k < 23) (h : ∀ j, j < k → wordsL.getD j [] ≠ l) (e : wordsL.getD k [] = l) : codeF l = k := by
  have hl : wordsL.length = 23 := rfl
  have hf : wordsL.findIdx (· == l) = k := by
    rw [List.findIdx_eq (by omega)]
    refine ⟨?_, fun j hj => ?_⟩
    · rw [List.getD_eq_getElem?_getD, List.getElem?_eq_getElem (by omega)] at e
      simpa using e
    · have h2 := h j hj
      rw [List.getD_eq_getElem?_getD, List.getElem?_eq_getElem (by omega)] at h2
      simpa using h2
  unfold codeF; rw [hf, if_pos hk]
theorem codeF_no {l : List UInt8} (h : ∀ j, j < 23 → wordsL.getD j [] ≠ l) : codeF l = 0 := by
  have hl : wordsL.length = 23 := rfl
  unfold codeF
  by_cases hf : wordsL.findIdx (· == l) < 23
  · exfalso
    have h2 := List.findIdx_getElem (w := show wordsL.findIdx (· == l) < wordsL.length by omega)
    have h3 := h _ hf
    rw [List.getD_eq_getElem?_getD, List.getElem?_eq_getElem (by omega)] at h3
    exact h3 (by simpa using h2)
  · rw [if_neg hf]
end Go.Proofs.YtmememehlfbgaaaDoor
