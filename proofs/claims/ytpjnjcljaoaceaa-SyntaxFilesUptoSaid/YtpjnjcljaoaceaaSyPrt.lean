/- The program's looks at texts: isPrintable, Quoted; at an If: isAmbiguous. -/
import Derived.Test.YtpjnjcljaoaceaaSyDan
import Derived.Test.YtpjnjcljaoaceaaMgCls
import Derived.Test.YtpjnjcljaoaceaaMgStr
import Derived.Lib.ConvBytes
namespace Go.Proofs.Ytpjnjcljaoaceaa
open Go Go.RowKit
set_option linter.unusedVariables false
theorem gb_get (s : ByteArray) (j : Nat) (hj : j < s.size) : (s.data.toList.getD j 0).toNat = gb s j := by
  unfold gb
  have hl : j < s.data.toList.length := by rw [len_list]; exact hj
  rw [List.getD_eq_getElem?_getD, List.getElem?_eq_getElem hl, getElem!_pos s.data j (by simpa using hl)]
  rfl
/-- every byte from the blank to the tilde -/
def prt (s : ByteArray) : Bool := s.data.toList.all fun c => decide (32 ≤ c.toNat) && decide (c.toNat ≤ 126)
theorem prt_all (s : ByteArray) (h : ∀ j, j < s.size → 32 ≤ gb s j ∧ gb s j ≤ 126) : prt s = true := by
  unfold prt
  rw [List.all_eq_true]
  intro c hc
  obtain ⟨i, hi, rfl⟩ := List.getElem_of_mem hc
  have hi' : i < s.size := by rw [Array.length_toList] at hi; exact hi
  have := h i hi'
  rw [← gb_at s i hi'] at this
  have e : s.data.toList[i] = s[i] := by rw [Array.getElem_toList]; rfl
  rw [e]
  simp [this.1, this.2]
theorem prt_no (s : ByteArray) (j : Nat) (h : j < s.size) (hc : gb s j < 32 ∨ 126 < gb s j) : prt s = false := by
  unfold prt
  rw [List.all_eq_false]
  have e : s.data.toList[j]'(by rw [Array.length_toList]; exact h) = s[j] := by rw [Array.getElem_toList]; rfl
  refine ⟨s[j], by rw [← e]; exact List.getElem_mem _, ?_⟩
  rw [← gb_at s j h] at hc
  simp <;> omega
set_option maxRecDepth 100000 in
set_option maxHeartbeats 2000000 in
theorem isPrintable_any (s : ByteArray) (hs : s.size ≤ 1000000) (w : World) : Calls Try.prog 41 #[.string s] w fun e w' => e = .returned (.bool (prt s)) ∧ Below w.heap.size w w' := by
  have hcv := Lib.run_convert_string_bytes (P := Try.prog) w 9 58 5 s Try.underlying9 Try.underlying58 Try.underlying5
  have hb : Below w.heap.size w (Lib.bytesWorld w 5 s) := Lib.bytesWorld_below _ _ _
  have hcells : ∀ j, j < s.size → (Lib.bytesWorld w 5 s).cell? ⟨w.heap.size, j, none⟩ = some (.int .u8 (gb s j : Nat)) := fun j hj => by
    rw [Lib.bytesWorld_cell w 5 s j hj, gb_get s j hj]
  generalize Lib.bytesWorld w 5 s = W1 at *
  generalize grownCap w s.size 0 5 = cp at *
  have HC := Lib.hid hcells
  clear hcells
  go_enter Try.func41, Try.ntmps41
  go_upto_block 0 with fail
  clear hcv
  go_wp2_with fail
  go_loop [8] (fun i => ∃ k : Nat, k ≤ s.size ∧ i = .int .i64 k ∧ Hid (∀ j, j < k → 32 ≤ gb s j ∧ gb s j ≤ 126)) (fun i => s.size - (intOf i).toNat)
  case atStart => exact ⟨0, Nat.zero_le _, rfl, Lib.hid (fun j hj => absurd hj (Nat.not_lt_zero j))⟩
  case round =>
    obtain ⟨k, hk, rfl, hd⟩ := hrel
    have hk0 : (0 : Int) ≤ (k : Int) := by omega
    by_cases hlt : k < s.size
    · have hki : (k : Int) < (s.size : Int) := by omega
      have hcell := HC.out k hlt
      have HN : Hid (gb s k < 32 ∨ 126 < gb s k → prt s = false) := Lib.hid (prt_no s k hlt)
      have HY : Hid (32 ≤ gb s k ∧ gb s k ≤ 126 → ∀ j, j < k + 1 → 32 ≤ gb s j ∧ gb s j ≤ 126) := Lib.hid (fun h j hj => by
        by_cases hq : j < k
        · exact hd.out j hq
        · obtain rfl : j = k := by omega
          exact h)
      generalize gb s k = c at hcell HN HY
      by_cases h1 : c < 32
      · have hp := HN.out (Or.inl h1)
        have h1i : (c : Int) < 32 := by omega
        clear HN HY hd
        go_wp2_with fail
        go_ret
        exact ⟨by first | rfl | (rw [hp]; rfl), hb⟩
      · have h1i : ¬ (c : Int) < 32 := by omega
        by_cases h2 : 126 < c
        · have hp := HN.out (Or.inr h2)
          have h2i : (126 : Int) < (c : Int) := by omega
          clear HN HY hd
          go_wp2_with fail
          go_ret
          exact ⟨by first | rfl | (rw [hp]; rfl), hb⟩
        · have h2i : ¬ (126 : Int) < (c : Int) := by omega
          have hp := Lib.hid (HY.out (by omega))
          clear HN HY hd
          go_wp2_with fail
          go_round
          case rel => exact ⟨k + 1, hlt, by go_num, hp⟩
          case measure => simp [intOf] <;> omega
    · obtain rfl : k = s.size := by omega
      have hp : prt s = true := prt_all s hd.out
      clear hd
      go_wp2_with fail
      go_ret
      exact ⟨by first | rfl | (rw [hp]; rfl), hb⟩
/-- a name as it can stand in quotes -/
def quo (s : ByteArray) : Bool := decide (0 < s.size) && (decide (s.size ≤ 40) && (span inQ s == s.size))
set_option maxRecDepth 100000 in
set_option maxHeartbeats 1000000 in
theorem quoted_any (s : ByteArray) (w : World) : Calls Try.prog 39 #[.string s] w fun e w' => e = .returned (.bool (quo s)) ∧ w = w' := by
  unfold quo
  by_cases h0 : 0 < s.size
  · have hn : s.toList.isEmpty = false := toL_ne h0
    rw [decide_eq_true h0]
    by_cases h1 : s.size ≤ 40
    · rw [decide_eq_true h1]
      have hi : (s.size : Int) ≤ 40 := by omega
      have hS := fun W => span_Q s (by omega) W
      have hle : span inQ s ≤ s.size := span_le inQ s
      generalize span inQ s = n at *
      have HS := Lib.hid hS
      clear hS
      by_cases hq : n = s.size
      · have hqi : ((n : Int) == (s.size : Int)) = true := by rw [hq]; exact beq_self_eq_true _
        have hqb : (n == s.size) = true := beq_iff_eq.2 hq
        rw [hqb]
        clear hqb hq
        go_enter Try.func39, Try.ntmps39
        go_wp2_with (refine (HS.out _).mono ?_; rintro e w3 ⟨rfl, rfl⟩)
        go_ret
        exact ⟨rfl, rfl⟩
      · have hqi : ((n : Int) == (s.size : Int)) = false := beq_eq_false_iff_ne.2 (by omega)
        have hqb : (n == s.size) = false := beq_eq_false_iff_ne.2 hq
        rw [hqb]
        clear hqb
        go_enter Try.func39, Try.ntmps39
        go_wp2_with (refine (HS.out _).mono ?_; rintro e w3 ⟨rfl, rfl⟩)
        go_ret
        exact ⟨rfl, rfl⟩
    · have hi : ¬ (s.size : Int) ≤ 40 := by omega
      rw [decide_eq_false h1]
      go_enter Try.func39, Try.ntmps39
      go_wp2_with fail
      go_ret
      exact ⟨rfl, rfl⟩
  · have h0' : s.size = 0 := by omega
    obtain rfl : s = ⟨#[]⟩ := ByteArray.ext (Array.eq_empty_of_size_eq_zero h0')
    go_enter Try.func39, Try.ntmps39
    go_wp2_with fail
    go_ret
    exact ⟨rfl, rfl⟩
/-- an If whose second branch would be read as that of a statement in the first one -/
def ambK (d : Nat) : Nd → Bool
  | .mk k _ _ _ _ _ _ _ _ _ _ ks => k == 57 && (match ks with | [_, y, z] => !(z.kind == 0) && dan d y | _ => false)
end Go.Proofs.Ytpjnjcljaoaceaa
