/- Names of bits: the reference. -/
import Derived.Test.YtcpifmhcebfglaaGrMem
namespace Go.Proofs.Ytcpifmhcebfglaa
open Go Go.RowKit
set_option linter.unusedVariables false
def nmB (s : ByteArray) : Bool := s.data.toList.all (fun c => decide (33 ≤ c.toNat) && decide (c.toNat ≤ 126)) && decide (1 ≤ s.size) && decide (s.size ≤ 128)
theorem len_data (s : ByteArray) : s.data.toList.length = s.size := by simp
theorem tne (s : ByteArray) (h : 0 < s.size) : ¬ s.toList = [] := by
  rw [ByteArray.toList_eq]
  intro e
  have := len_data s
  rw [e] at this
  simp at this; omega
theorem tnil (s : ByteArray) (h : s.size = 0) : s.toList = [] := by
  rw [ByteArray.toList_eq]
  have := len_data s
  exact List.eq_nil_of_length_eq_zero (by omega)
theorem tk_data (s : ByteArray) (k : Nat) (h : k < s.size) : s.data.toList.take (k + 1) = s.data.toList.take k ++ [s[k]] := by
  have hl : k < s.data.toList.length := by rw [len_data]; exact h
  rw [List.take_succ_eq_append_getElem hl]; rfl
set_option maxRecDepth 100000 in
set_option maxHeartbeats 1600000 in
theorem rnamed_any (s : ByteArray) (hs : s.size ≤ 9223372036854775000) (w : World) : Calls Try.prog 177 #[.string s] w fun e w' => e = .returned (.bool (nmB s)) ∧ w' = w := by
  have hl := len_data s
  go_enter Try.func177, Try.ntmps177
  go_wp2_with fail
  go_loopw [6] (fun i wr => ∃ k : Nat, k ≤ s.size ∧ i = .int .i64 k ∧ Hid ((s.data.toList.take k).all (fun c => decide (33 ≤ c.toNat) && decide (c.toNat ≤ 126)) = true) ∧ wr = w) (fun i _ => s.size - (intOf i).toNat)
  case atStart => exact ⟨0, Nat.zero_le _, rfl, rfl, rfl⟩
  case round =>
    obtain ⟨k, hk, rfl, hz, rfl⟩ := hrel
    have hk0 : (0 : Int) ≤ (k : Int) := by omega
    by_cases hlt : k < s.size
    · have hki : (k : Int) < (s.size : Int) := by omega
      have hmem : s[k] ∈ s.data.toList := List.getElem_mem (by rw [hl]; exact hlt)
      by_cases h1 : s[k].toNat ≤ 32
      · have HF : Hid (nmB s = false) := by
          show nmB s = false
          unfold nmB
          cases e : s.data.toList.all (fun c => decide (33 ≤ c.toNat) && decide (c.toNat ≤ 126)) with
          | false => rfl
          | true => have := List.all_eq_true.1 e _ hmem; simp at this; omega
        have h1i : (s[k].toNat : Int) ≤ 32 := by omega
        clear hmem
        go_wp2_with fail
        go_ret
        exact ⟨ret_bool HF.out.symm, rfl⟩
      · have h1i : ¬ (s[k].toNat : Int) ≤ 32 := by omega
        by_cases h2 : 126 < s[k].toNat
        · have HF : Hid (nmB s = false) := by
            show nmB s = false
            unfold nmB
            cases e : s.data.toList.all (fun c => decide (33 ≤ c.toNat) && decide (c.toNat ≤ 126)) with
            | false => rfl
            | true => have := List.all_eq_true.1 e _ hmem; simp at this; omega
          have h2i : (126 : Int) < (s[k].toNat : Int) := by omega
          clear hmem
          go_wp2_with fail
          go_ret
          exact ⟨ret_bool HF.out.symm, rfl⟩
        · have h2i : ¬ (126 : Int) < (s[k].toNat : Int) := by omega
          have HS : Hid ((s.data.toList.take (k + 1)).all (fun c => decide (33 ≤ c.toNat) && decide (c.toNat ≤ 126)) = true) := by
            show (s.data.toList.take (k + 1)).all _ = true
            rw [tk_data s k hlt, List.all_append, hz.out]; simp; omega
          clear hmem
          go_wp2_with fail
          go_roundw
          case rel => exact ⟨k + 1, by omega, by go_num, HS, by first | rfl | trivial⟩
          case measure => first | done | (simp [intOf]; done) | (simp [intOf]; omega)
    · have hki : ¬ (k : Int) < (s.size : Int) := by omega
      have HA : s.data.toList.all (fun c => decide (33 ≤ c.toNat) && decide (c.toNat ≤ 126)) = true := by
        have := hz.out
        rwa [List.take_of_length_le (by omega)] at this
      by_cases h0 : s.size = 0
      · have he := tnil s h0
        have HF : Hid (nmB s = false) := by show nmB s = false; unfold nmB; simp [h0]
        clear HA
        go_wp2_with fail
        go_ret
        exact ⟨ret_bool HF.out.symm, rfl⟩
      · have he := tne s (by omega)
        have he2 : (s.toList == []) = false := by simpa using he
        have he3 : s.toList.isEmpty = false := by cases hq : s.toList with
          | nil => exact absurd hq he
          | cons a b => rfl
        by_cases h3 : s.size ≤ 128
        · have h3i : (s.size : Int) ≤ 128 := by omega
          have HF : Hid (nmB s = true) := by show nmB s = true; unfold nmB; rw [HA]; simp; omega
          clear HA
          go_wp2_with fail
          go_ret
          exact ⟨ret_bool HF.out.symm, rfl⟩
        · have h3i : ¬ (s.size : Int) ≤ 128 := by omega
          have HF : Hid (nmB s = false) := by show nmB s = false; unfold nmB; simp [h3]
          clear HA
          go_wp2_with fail
          go_ret
          exact ⟨ret_bool HF.out.symm, rfl⟩
end Go.Proofs.Ytcpifmhcebfglaa
