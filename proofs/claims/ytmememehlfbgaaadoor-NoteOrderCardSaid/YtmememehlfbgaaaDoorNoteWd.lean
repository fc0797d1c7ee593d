/- The reference's NoteWord. -/
import Derived.Test.YtmememehlfbgaaaDoorNoteR
namespace Go.Proofs.YtmememehlfbgaaaDoor
open Go Go.RowKit
set_option linter.unusedVariables false
theorem ret_str {a b : ByteArray} (h : a = b) : Ending.returned (.string a) = .returned (.string b) := by rw [h]
/-- the words, each with a blank ahead -/
def nwB : ByteArray := ⟨(([32, 97, 114, 103, 117, 109, 101, 110, 116, 32, 114, 97, 110, 103, 101, 32, 108, 97, 114, 103, 101, 32, 102, 111, 114, 109, 32, 111, 114, 100, 101, 114].append [32, 116, 119, 105, 99, 101, 32, 117, 110, 107, 110, 111, 119, 110, 32, 116, 121, 112, 101, 32, 110, 97, 109, 101, 32, 115, 121, 110, 116, 97, 120, 32, 115]).append ([104, 111, 114, 116, 32, 115, 117, 109, 32, 115, 116, 97, 116, 101, 32, 102, 117, 108, 108, 32, 99, 108, 97, 115, 104, 32, 108, 111, 115, 116, 32, 108].append [111, 111, 112, 32, 111, 112, 101, 110, 32, 99, 111, 110, 115, 116, 97, 110, 116, 32, 119, 105, 100, 116, 104, 32, 116, 105, 109, 101, 32, 114, 117, 108, 101])).toArray⟩
/-- is there a word's end at place k -/
def nwSep (k : Nat) : Bool := decide (130 ≤ k) || (nwB.data[k]!).toNat == 32
def nwCnt : Nat → Nat
  | 0 => 0
  | k + 1 => if nwSep k then nwCnt k + 1 else nwCnt k
def nwFrm : Nat → Nat
  | 0 => 0
  | k + 1 => if nwSep k then k + 1 else nwFrm k
theorem nw_word : ∀ k : Fin 131, nwSep k.1 = true → nwB.extract (nwFrm k.1) k.1 = wordB (nwCnt k.1) ∧ nwCnt k.1 < 23 := by decide +kernel
theorem nw_end : nwCnt 131 = 23 := by decide +kernel
theorem nw_le (k : Nat) : nwFrm k ≤ k ∧ nwCnt k ≤ k := by
  induction k with
  | zero => exact ⟨Nat.le_refl _, Nat.le_refl _⟩
  | succ k ih => simp only [nwFrm, nwCnt]; split <;> omega
theorem nw_size : nwB.size = 130 := by decide +kernel
end Go.Proofs.YtmememehlfbgaaaDoor
