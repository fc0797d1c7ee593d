/- The reference's within. -/
import Derived.Test.YtmimihjbepjnfaaGreatDoorBase
import Derived.Lib.QuietBelow
import Derived.LoopTactic
import Derived.Test.YtmimihjbepjnfaaGreatDoorNoteMath
import Derived.LoopTactic
namespace Go.Proofs.YtmimihjbepjnfaaGreatDoor
open Go Go.RowKit
set_option linter.unusedVariables false
theorem ret_bool {a b : Bool} (h : a = b) : Ending.returned (.bool a) = .returned (.bool b) := by rw [h]
theorem tk_snoc (s : ByteArray) (k : Nat) (h : k < s.size) : s.data.toList.take (k + 1) = s.data.toList.take k ++ [s[k]] := by
  rw [List.take_succ_eq_append_getElem (by simpa using h)]; rfl
theorem tk_len (s : ByteArray) {k : Nat} (h : s.size ≤ k) : s.data.toList.take k = s.data.toList := List.take_of_length_le (by simpa using h)
theorem all_ne {l : List UInt8} {c : UInt8} {m : Nat} (h : m < l.length) (h1 : ∀ x ∈ l.take m, x ≠ c) (h2 : l[m] ≠ c) : ∀ x ∈ l.take (m + 1), x ≠ c := by
  intro x hx
  rw [List.take_succ_eq_append_getElem h] at hx
  rcases List.mem_append.1 hx with h3 | h3
  · exact h1 x h3
  · simp at h3; rw [h3]; exact h2
set_option maxRecDepth 100000 in
set_option maxHeartbeats 1600000 in
theorem rwithin_any (s but : ByteArray) (lo hi : Nat) (hs : s.size ≤ 9223372036854775807) (hb : but.size ≤ 9223372036854775807) (w : World) : Calls Tryz.prog 25 #[.string s, .int .u8 lo, .int .u8 hi, .string but] w fun e w' => e = .returned (.bool (wib lo hi but.data.toList s.data.toList)) ∧ Below w.heap.size w w' := by
  go_enter Tryz.func25, Tryz.ntmps25
  go_wp2_with fail
  go_loopw [13] (fun i wr => ∃ k : Nat, k ≤ s.size ∧ i = .int .i64 k ∧ Hid (wib lo hi but.data.toList (s.data.toList.take k) = true) ∧ Below w.heap.size w wr) (fun i _ => s.size - (intOf i).toNat)
  case atStart => exact ⟨0, Nat.zero_le _, rfl, rfl, Below.refl _ _⟩
  case round =>
    obtain ⟨k, hk, rfl, hz, hbel⟩ := hrel
    by_cases hlt : k < s.size
    · have hl : k < s.data.toList.length := by simpa using hlt
      by_cases h1 : s[k].toNat < lo
      · have HF := Lib.hid (wib_out (lo := lo) (hi := hi) (but := but.data.toList) hl (Or.inl h1))
        go_wp2_with fail
        go_ret
        exact ⟨ret_bool HF.out.symm, hbel⟩
      · by_cases h2 : hi < s[k].toNat
        · have HF := Lib.hid (wib_out (lo := lo) (hi := hi) (but := but.data.toList) hl (Or.inr (Or.inl h2)))
          go_wp2_with fail
          go_ret
          exact ⟨ret_bool HF.out.symm, hbel⟩
        · have HB := Lib.hid hbel
          clear hbel
          obtain ⟨wo, hwo⟩ : ∃ wo : World, wo = wr := ⟨_, rfl⟩
          subst hwo
          go_wp2_with fail
          go_loopw [30] (fun j wi => ∃ m : Nat, m ≤ but.size ∧ j = .int .i64 m ∧ Hid (∀ x ∈ but.data.toList.take m, x ≠ s[k]) ∧ Below w.heap.size w wi) (fun j _ => but.size - (intOf j).toNat)
          case atStart => exact ⟨0, Nat.zero_le _, rfl, (fun x hx => by simp at hx), HB.out⟩
          case round =>
            obtain ⟨m, hm, rfl, hy, hbel⟩ := hrel
            by_cases hlt2 : m < but.size
            · have hl2 : m < but.data.toList.length := by simpa using hlt2
              have hk0 : (0 : Int) ≤ (k : Int) := by omega
              have hk1 : (k : Int) < (s.size : Int) := by omega
              have hm0 : (0 : Int) ≤ (m : Int) := by omega
              have hm1 : (m : Int) < (but.size : Int) := by omega
              by_cases h3 : s[k] = but[m]
              · have ht : ((s[k].toNat : Int) == (but[m].toNat : Int)) = true := by rw [h3]; simp
                have HF : Hid (wib lo hi but.data.toList s.data.toList = false) := wib_out hl (Or.inr (Or.inr (by rw [List.contains_iff_mem]; show s[k] ∈ _; rw [h3]; exact List.getElem_mem hl2)))
                clear h3
                go_wp2_with fail
                go_quiet (fail)
                go_wp2_with fail
                go_ret
                exact ⟨ret_bool HF.out.symm, below_drewN hbel _⟩
              · have ht : ((s[k].toNat : Int) == (but[m].toNat : Int)) = false := by
                  apply beq_eq_false_iff_ne.2; intro e; apply h3; apply UInt8.toNat_inj.1; omega
                have HS : Hid (∀ x ∈ but.data.toList.take (m + 1), x ≠ s[k]) := all_ne hl2 hy.out (fun e => h3 e.symm)
                clear h3
                go_wp2_with fail
                go_quiet (fail)
                go_wp2_with fail
                go_roundw
                case rel => exact ⟨m + 1, by omega, by go_num, HS, below_drewN hbel _⟩
                case measure => simp [intOf]; omega
            · have HS : Hid (wib lo hi but.data.toList (s.data.toList.take (k + 1)) = true) := by
                show wib lo hi but.data.toList (s.data.toList.take (k + 1)) = true
                have hy2 := hy.out
                rw [List.take_of_length_le (by simp; omega)] at hy2
                have hc : but.data.toList.contains s[k] = false := by
                  cases e : but.data.toList.contains s[k]
                  · rfl
                  · exact absurd rfl (hy2 _ (List.contains_iff_mem.1 e))
                rw [tk_snoc s k hlt, wib_snoc, hz.out, hc]; simp; omega
              go_wp2_with fail
              go_roundw
              case rel => exact ⟨k + 1, by omega, by go_num, HS, hbel⟩
              case measure => simp [intOf]; omega
    · have HF : Hid (wib lo hi but.data.toList s.data.toList = true) := by
        have := hz.out
        rw [tk_len s (by omega)] at this; exact this
      go_wp2_with fail
      go_ret
      exact ⟨ret_bool HF.out.symm, hbel⟩
end Go.Proofs.YtmimihjbepjnfaaGreatDoor
