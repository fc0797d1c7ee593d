/- Package note: Read of any text. -/
import Derived.Test.YtmeofhjnckgcpaaDoorNoteTa
import Derived.Test.YtmeofhjnckgcpaaDoorNoteScan
namespace Go.Proofs.YtmeofhjnckgcpaaDoor
open Go Go.RowKit
set_option linter.unusedVariables false
theorem cut_len (l sep : List UInt8) : (Lib.cut l sep).1.length ≤ l.length ∧ (Lib.cut l sep).2.1.length ≤ l.length := by
  unfold Lib.cut
  split
  · simp; omega
  · simp
theorem trim_len (l sep : List UInt8) : (Lib.trimPrefix l sep).length ≤ l.length := by
  unfold Lib.trimPrefix
  split
  · simp
  · exact Nat.le_refl _
theorem cut_eta (l sep : List UInt8) : Lib.cut l sep = ((Lib.cut l sep).1, (Lib.cut l sep).2.1, (Lib.cut l sep).2.2) := rfl
theorem list_e {l : List UInt8} (h : l = []) : (⟨l.toArray⟩ : ByteArray).toList = [] ∧ (⟨l.toArray⟩ : ByteArray).toList.isEmpty = true := by subst h; exact ⟨by rw [Lib.toList_data], by rw [Lib.toList_data]; rfl⟩
theorem list_ne {l : List UInt8} (h : l ≠ []) : ¬ (⟨l.toArray⟩ : ByteArray).toList = [] ∧ (⟨l.toArray⟩ : ByteArray).toList.isEmpty = false := by
  have e : (⟨l.toArray⟩ : ByteArray).toList = l := by rw [Lib.toList_data]
  rw [e]; exact ⟨h, by simpa using h⟩
theorem takeApart_any (s : ByteArray) (hs : s.size ≤ 1000) {B : Nat} (w : World) (hG : NGlob B w) (hM : Mx w) :
    Calls Tryd.prog 40 #[.string s] w fun e w' => e = .returned (.tuple #[.agg #[.string ⟨(nF s.data.toList).toArray⟩, .int .i64 (pL s.data.toList), .int .i64 (pC s.data.toList), .int .i64 (codeF (pW s.data.toList)), .string ⟨(pT s.data.toList).toArray⟩], .bool (okL s.data.toList)]) ∧ Below w.heap.size w w' := by
  have hl := len_toList s
  generalize hS : s.data.toList = S at hl ⊢
  have k1 := cut_len S [58]
  have k2 := cut_len (nR S) [58]
  have k3 := cut_len (nR (nR S)) [58]
  have k4 := trim_len (pRs S) [32]
  have k5 := cut_len (pTl S) [32]
  have z1 : (nR S).length ≤ 1000 := by unfold nR at *; omega
  have z2 : (nR (nR S)).length ≤ 1000 := by unfold nR at *; omega
  have z3 : (pRs S).length ≤ 1000 := by unfold pRs; unfold nR at *; omega
  have z4 : (pTl S).length ≤ 1000 := by unfold pTl; omega
  have zl : (nF (nR S)).length ≤ 1000 := by unfold nF; omega
  have zc : (nF (nR (nR S))).length ≤ 1000 := by unfold nF; omega
  have n1 : Hid (∀ w, Calls Tryd.prog 59 #[.string ⟨(nF (nR S)).toArray⟩] w fun e w' => e = .returned (.int .i64 (pL S)) ∧ w = w') := fun w => by
    have h := number_any ⟨(nF (nR S)).toArray⟩ (by rw [ba_size]; omega) w
    rw [ba_list] at h; exact h
  have n2 : Hid (∀ w, Calls Tryd.prog 59 #[.string ⟨(nF (nR (nR S))).toArray⟩] w fun e w' => e = .returned (.int .i64 (pC S)) ∧ w = w') := fun w => by
    have h := number_any ⟨(nF (nR (nR S))).toArray⟩ (by rw [ba_size]; omega) w
    rw [ba_list] at h; exact h
  have hc1 : Hid (Lib.cut s.data.toList (⟨#[58]⟩ : ByteArray).data.toList = ((⟨(nF S).toArray⟩ : ByteArray).data.toList, (⟨(nR S).toArray⟩ : ByteArray).data.toList, (Lib.cut S [58]).2.2)) := by show _ = _; rw [ba_list, ba_list, hS]; rfl
  have hc2 : Hid (Lib.cut (⟨(nR S).toArray⟩ : ByteArray).data.toList (⟨#[58]⟩ : ByteArray).data.toList = ((⟨(nF (nR S)).toArray⟩ : ByteArray).data.toList, (⟨(nR (nR S)).toArray⟩ : ByteArray).data.toList, (Lib.cut (nR S) [58]).2.2)) := by show _ = _; rw [ba_list, ba_list, ba_list]; rfl
  have hc3 : Hid (Lib.cut (⟨(nR (nR S)).toArray⟩ : ByteArray).data.toList (⟨#[58]⟩ : ByteArray).data.toList = ((⟨(nF (nR (nR S))).toArray⟩ : ByteArray).data.toList, (⟨(pRs S).toArray⟩ : ByteArray).data.toList, (Lib.cut (nR (nR S)) [58]).2.2)) := by show _ = _; rw [ba_list, ba_list, ba_list]; rfl
  have hp1 : Hid (Lib.trimPrefix (⟨(pRs S).toArray⟩ : ByteArray).data.toList (⟨#[32]⟩ : ByteArray).data.toList = (⟨(pTl S).toArray⟩ : ByteArray).data.toList) := by show _ = _; rw [ba_list, ba_list]; rfl
  have hp2 : Hid (Lib.hasPrefix (⟨(pRs S).toArray⟩ : ByteArray).data.toList (⟨#[32]⟩ : ByteArray).data.toList = pP S) := by show _ = _; rw [ba_list]; rfl
  have hc4 : Hid (Lib.cut (⟨(pTl S).toArray⟩ : ByteArray).data.toList (⟨#[32]⟩ : ByteArray).data.toList = ((⟨(pW S).toArray⟩ : ByteArray).data.toList, (⟨(pT S).toArray⟩ : ByteArray).data.toList, pB S)) := by show _ = _; rw [ba_list, ba_list, ba_list]; rfl
  have he : Hid (((codeF (⟨(pW S).toArray⟩ : ByteArray).data.toList : Nat) : Int) = ((codeF (pW S) : Nat) : Int)) := by show _ = _; rw [ba_list]
  have s1 : (⟨(nR S).toArray⟩ : ByteArray).size ≤ 1000000 := by rw [ba_size]; omega
  have s2 : (⟨(nR (nR S)).toArray⟩ : ByteArray).size ≤ 1000000 := by rw [ba_size]; omega
  have s4 : (⟨(pTl S).toArray⟩ : ByteArray).size ≤ 1000000 := by rw [ba_size]; omega
  have s0 : s.size ≤ 1000000 := by omega
  clear k1 k2 k3 k4 k5 z1 z2 z3 z4 zl zc hS hl
  by_cases l0 : pL S < 0
  · have e : okL S = false := by unfold okL; rw [decide_eq_false (by omega)]; rfl
    rw [e]; exact take_1 s _ _ _ _ _ _ _ _ _ _ _ _ _ _ _ _ _ s0 s1 s2 s4 hc1 hc2 hc3 hp1 hp2 hc4 n1 n2 he l0 w hG hM
  by_cases c0 : pC S < 0
  · have e : okL S = false := by unfold okL; rw [decide_eq_false (show ¬ 0 ≤ pC S by omega)]; simp
    rw [e]; exact take_2 s _ _ _ _ _ _ _ _ _ _ _ _ _ _ _ _ _ s0 s1 s2 s4 hc1 hc2 hc3 hp1 hp2 hc4 n1 n2 he (by omega) c0 w hG hM
  cases hP : pP S
  · rw [okL_p hP]; exact take_3 s _ _ _ _ _ _ _ _ _ _ _ _ _ _ _ _ _ s0 s1 s2 s4 hc1 hc2 hc3 hp1 hp2 hc4 n1 n2 he (by omega) (by omega) hP w hG hM
  by_cases e0 : codeF (pW S) = 0
  · have e : okL S = false := by unfold okL; rw [e0]; simp
    rw [e]; exact take_4 s _ _ _ _ _ _ _ _ _ _ _ _ _ _ _ _ _ s0 s1 s2 s4 hc1 hc2 hc3 hp1 hp2 hc4 n1 n2 he (by omega) (by omega) hP (by rw [e0]; rfl) w hG hM
  have d1 : decide (0 ≤ pL S) = true := decide_eq_true (by omega)
  have d2 : decide (0 ≤ pC S) = true := decide_eq_true (by omega)
  have d3 : decide (codeF (pW S) ≠ 0) = true := decide_eq_true e0
  by_cases ht : pT S = []
  · cases hB : pB S
    · have e : okL S = true := by unfold okL; rw [d1, d2, d3, hP, hB]; simp
      rw [e]; exact take_7 s _ _ _ _ _ _ _ _ _ _ _ _ _ _ _ _ _ s0 s1 s2 s4 hc1 hc2 hc3 hp1 hp2 hc4 n1 n2 he (by omega) (by omega) hP (by omega) (list_e ht) hB w hG hM
    · have e : okL S = false := by unfold okL; rw [hB, ht]; simp
      rw [e]; exact take_5 s _ _ _ _ _ _ _ _ _ _ _ _ _ _ _ _ _ s0 s1 s2 s4 hc1 hc2 hc3 hp1 hp2 hc4 n1 n2 he (by omega) (by omega) hP (by omega) (list_e ht) hB w hG hM
  · have e : okL S = true := by
      have : (pT S).isEmpty = false := by simpa using ht
      unfold okL; rw [d1, d2, d3, hP, this]; simp
    rw [e]; exact take_6 s _ _ _ _ _ _ _ _ _ _ _ _ _ _ _ _ _ s0 s1 s2 s4 hc1 hc2 hc3 hp1 hp2 hc4 n1 n2 he (by omega) (by omega) hP (by omega) (list_ne ht) w hG hM
end Go.Proofs.YtmeofhjnckgcpaaDoor
