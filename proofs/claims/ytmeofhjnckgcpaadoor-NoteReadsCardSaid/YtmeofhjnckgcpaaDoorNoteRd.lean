/- Package note: number and code. -/
import Derived.Test.YtmeofhjnckgcpaaDoorNoteR
import Derived.Test.YtmeofhjnckgcpaaDoorPlaceMath
namespace Go.Proofs.YtmeofhjnckgcpaaDoor
open Go Go.RowKit
set_option linter.unusedVariables false
/-- the number of the first k digits; at most 16002 -/
def numF (s : ByteArray) : Nat → Nat
  | 0 => 0
  | k + 1 => min (numF s k * 10 + ((s.data[k]!).toNat - 48)) 16002
theorem numF_le (s : ByteArray) (k : Nat) : numF s k ≤ 16002 := by
  cases k with
  | zero => exact Nat.zero_le _
  | succ k => exact Nat.min_le_right _ _
theorem ret_i {a b : Int} (h : a = b) : Ending.returned (.int .i64 a) = .returned (.int .i64 b) := by rw [h]
theorem dig_at {s : ByteArray} (h : wi 48 57 s.data.toList = true) (k : Nat) (hk : k < s.size) : 48 ≤ s[k].toNat ∧ s[k].toNat ≤ 57 := by
  unfold wi at h
  have h2 := List.all_eq_true.1 h s.data.toList[k] (List.getElem_mem (by simpa using hk))
  simp only [Bool.and_eq_true, decide_eq_true_eq] at h2
  exact h2
set_option maxRecDepth 100000 in
set_option maxHeartbeats 800000 in
theorem number_ok (s : ByteArray) (hs : 0 < s.size) (hs2 : s.size ≤ 1000000) (h0 : ((s[0].toNat : Int) == 48) = false) (hw : Hid (wi 48 57 s.data.toList = true)) (w : World) :
    Calls Tryd.prog 59 #[.string s] w fun e w' => e = .returned (.int .i64 (numF s s.size)) ∧ w = w' := by
  have hne1 : ¬ s.toList = [] := fun e => by
    rw [Lib.toList_data] at e
    have h : s.data.toList.length = 0 := by rw [e]; rfl
    rw [len_toList] at h; omega
  have hne2 : s.toList.isEmpty = false := by simpa using hne1
  go_enter Tryd.func59, Tryd.ntmps59
  go_wp2_with fail
  refine (nwithin_any s 48 57 (by omega) _).mono ?_
  rintro e w' ⟨rfl, rfl⟩
  rw [hw.out]
  go_wp2_with fail
  clear h0 hne1 hne2
  go_loop [3, 23] (fun v i => ∃ k : Nat, k ≤ s.size ∧ i = .int .i64 k ∧ v = .int .i64 (numF s k)) (fun _ i => s.size - (intOf i).toNat)
  case atStart => exact ⟨0, Nat.zero_le _, rfl, rfl⟩
  case round =>
    obtain ⟨k, hk, rfl, rfl⟩ := hrel
    have hl := numF_le s k
    by_cases hlt : k < s.size
    · obtain ⟨d1, d2⟩ := dig_at hw.out k hlt
      have hsn : (numF s (k + 1) : Int) = min ((numF s k : Int) * 10 + ((s[k].toNat : Int) - 48)) 16002 := by
        show ((min (numF s k * 10 + ((s.data[k]!).toNat - 48)) 16002 : Nat) : Int) = _
        rw [get_of_lt s k hlt]; omega
      have HS := Lib.hid hsn
      clear hsn
      go_wp2_with fail
      go_round
      case rel => exact ⟨k + 1, by omega, by go_num, by rw [HS.out]⟩
      case measure => simp [intOf]; omega
    · have hks : k = s.size := by omega
      have HK := Lib.hid hks
      clear hks
      go_wp2_with fail
      go_ret
      exact ⟨ret_i (by rw [HK.out]), rfl⟩
/-- the error code of a word -/
def codeF (l : List UInt8) : Nat := if wordsL.findIdx (· == l) < 23 then wordsL.findIdx (· == l) else 0
theorem codeF_at {l : List UInt8} {k : Nat} (hk : k < 23) (h : ∀ j, j < k → wordsL.getD j [] ≠ l) (e : wordsL.getD k [] = l) : codeF l = k := by
  have hl : wordsL.length = 23 := rfl
  have hf : wordsL.findIdx (· == l) = k := by
    rw [List.findIdx_eq (by omega)]
    refine ⟨?_, fun j hj => ?_⟩
    · rw [List.getD_eq_getElem?_getD, List.getElem?_eq_getElem (by omega)] at e
      simpa using e
    · have h2 := h j hj
      rw [List.getD_eq_getElem?_getD, List.getElem?_eq_getElem (by omega)] at h2
      simpa using h2
  unfold codeF; rw [hf, if_pos hk]
theorem codeF_no {l : List UInt8} (h : ∀ j, j < 23 → wordsL.getD j [] ≠ l) : codeF l = 0 := by
  have hl : wordsL.length = 23 := rfl
  unfold codeF
  by_cases hf : wordsL.findIdx (· == l) < 23
  · exfalso
    have h2 := List.findIdx_getElem (w := show wordsL.findIdx (· == l) < wordsL.length by omega)
    have h3 := h _ hf
    rw [List.getD_eq_getElem?_getD, List.getElem?_eq_getElem (by omega)] at h3
    exact h3 (by simpa using h2)
  · rw [if_neg hf]
set_option maxRecDepth 100000 in
set_option maxHeartbeats 800000 in
theorem code_any (s : ByteArray) {B : Nat} (w : World) (hG : NGlob B w) :
    Calls Tryd.prog 60 #[.string s] w fun e w' => e = .returned (.int .i64 (codeF s.data.toList)) ∧ w = w' := by
  have HW := Lib.hid hG.wd
  clear hG
  go_enter Tryd.func60, Tryd.ntmps60
  go_wp2_with fail
  go_loop [4] (fun i => ∃ k : Nat, k ≤ 23 ∧ i = .int .i64 k ∧ Hid (∀ j, j < k → wordsL.getD j [] ≠ s.data.toList)) (fun i => 23 - (intOf i).toNat)
  case atStart => exact ⟨0, Nat.zero_le _, rfl, fun j hj => by omega⟩
  case round =>
    obtain ⟨k, hk, rfl, hno⟩ := hrel
    by_cases hlt : k < 23
    · have hc := HW.out k hlt
      have hk0 : (0 : Int) ≤ (k : Int) := by omega
      have hk1 : (k : Int) < 23 := by omega
      by_cases he : wordsL.getD k [] = s.data.toList
      · have HF := Lib.hid (codeF_at hlt hno.out he)
        have he2 : ((wordB k).toList == s.toList) = true := by
          rw [Lib.toList_data, Lib.toList_data, show (wordB k).data.toList = wordsL.getD k [] from rfl, he]; exact beq_self_eq_true _
        clear he
        go_wp2_with fail
        go_ret
        exact ⟨ret_i (by rw [HF.out]), rfl⟩
      · have HS : Hid (∀ j, j < k + 1 → wordsL.getD j [] ≠ s.data.toList) := by
          intro j hj
          by_cases e : j = k
          · subst e; exact he
          · exact hno.out j (by omega)
        have he2 : ((wordB k).toList == s.toList) = false := by
          rw [Lib.toList_data, Lib.toList_data, show (wordB k).data.toList = wordsL.getD k [] from rfl]; exact beq_eq_false_iff_ne.2 he
        clear he
        go_wp2_with fail
        go_round
        case rel => exact ⟨k + 1, by omega, by go_num, HS⟩
        case measure => simp [intOf]; omega
    · have HF : Hid (codeF s.data.toList = 0) := by
        have : k = 23 := by omega
        subst this; exact codeF_no hno.out
      go_wp2_with fail
      go_ret
      exact ⟨ret_i (by rw [HF.out]; rfl), rfl⟩
end Go.Proofs.YtmeofhjnckgcpaaDoor
