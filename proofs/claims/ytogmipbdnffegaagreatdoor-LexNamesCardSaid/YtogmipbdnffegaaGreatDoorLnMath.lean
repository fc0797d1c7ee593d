/- What a plain name is, and a quoted one. No program here. -/
import Derived.Test.YtogmipbdnffegaaGreatDoorMgRun
import Derived.Test.YtogmipbdnffegaaGreatDoorMgScan
import Derived.Test.YtogmipbdnffegaaGreatDoorMgQt
namespace Go.Proofs.YtogmipbdnffegaaGreatDoor
open Go Go.RowKit
set_option linter.unusedVariables false
theorem nplain (s : ByteArray) (n : Nat) (hn : span inW s = n) (hns : n ≤ s.size) : ∀ c ∈ (s.extract 0 n).data.toList, c ≠ 32 := by
  intro c hc e
  obtain ⟨i, hi, rfl⟩ := List.mem_iff_getElem.1 hc
  have hi2 : i < (s.extract 0 n).size := by simpa using hi
  have hi3 : i < n := by simp at hi2; omega
  have h := span_yes (f := inW) (s := s) (q := i) (by omega) (by omega)
  have e2 : (s.extract 0 n).data.toList[i] = s[i] := by
    have : (s.extract 0 n).data.toList[i] = (s.extract 0 n)[i]'(by omega) := rfl
    rw [this, ByteArray.getElem_extract]
    simp
  rw [← e2, e] at h
  exact absurd h (by decide)
theorem ext_all (s : ByteArray) : s.extract 0 s.size = s := by
  apply ByteArray.ext
  simp
theorem kconcat (a : ByteArray) (h : ∀ c ∈ a.data.toList, c ≠ 32) : decide (0 ≤ Lib.index wordsT.data.toList (ByteArray.mk #[32] ++ a ++ ByteArray.mk #[32]).data.toList) = isKey a.data.toList := by
  have e : (ByteArray.mk #[32] ++ a ++ ByteArray.mk #[32]).data.toList = 32 :: (a.data.toList ++ [32]) := by
    simp [ByteArray.data_append]
  rw [e]
  exact has_key _ h
theorem key_all (s : ByteArray) (h : span inW s = s.size) : decide (0 ≤ Lib.index wordsT.data.toList (ByteArray.mk #[32] ++ s ++ ByteArray.mk #[32]).data.toList) = isKey s.data.toList := by
  have := nplain s s.size h (Nat.le_refl _)
  rw [ext_all] at this
  exact kconcat s this
theorem tne (s : ByteArray) (h : 0 < s.size) : ¬ s.toList = [] := by
  rw [ByteArray.toList_eq]
  intro hl
  have hll : s.data.toList.length = s.size := Array.length_toList
  rw [hl] at hll
  simp at hll
  omega
def plN (s : ByteArray) : Bool := decide (0 < s.size) && (decide (s.size ≤ 40) && (isL (gb s 0) && ((span inW s == s.size) && !isKey s.data.toList)))
def quN (s : ByteArray) : Bool := decide (0 < s.size) && (decide (s.size ≤ 40) && (span inQ s == s.size))
end Go.Proofs.YtogmipbdnffegaaGreatDoor
