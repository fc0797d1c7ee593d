/- The bits of a table: the reference's Room, the program's Mask. No condition. -/
import Derived.Test.YtimojbjamfckmaaNlMem
namespace Go.Proofs.Ytimojbjamfckmaa
open Go Go.RowKit Go.Sort
set_option linter.unusedVariables false
def roomI (i : Int) : BitVec 64 := if 0 ≤ i ∧ i ≤ 6 then loB (2 ^ i.toNat) else 0#64
theorem roomI_nat (m : Nat) : roomI (m : Int) = roomB m := by
  unfold roomI roomB
  by_cases h : m ≤ 6
  · rw [if_pos h, if_pos (by omega)]; rfl
  · rw [if_neg h, if_neg (by omega)]
theorem sh1 (yk : IntKind) (n : Nat) : Op.shift .shl .u64 1 yk (n : Int) = pure (.int .u64 (U (1#64 <<< n))) := shl_nat 1#64 yk n
theorem pw1 (n : Nat) : IntKind.u64.wrap (2 ^ n) = U (1#64 <<< n) := by
  have := U_shl 1#64 n
  rw [← this]; congr 1; show _ = 1 * _; omega
theorem ret_u {a b : Int} (h : a = b) : Ending.returned (.int .u64 a) = .returned (.int .u64 b) := by rw [h]
set_option maxRecDepth 100000 in
set_option maxHeartbeats 4000000 in
theorem room_any (i : Int) (w : World) : Calls Try.prog 17 #[.int .i64 i] w fun e w' => e = .returned (.int .u64 (U (roomI i))) ∧ w' = w := by
  by_cases q0 : 0 ≤ i
  rotate_left
  · have q1 : ¬ (0 : Int) ≤ i := q0
    have HE : Hid (roomI i = 0#64) := Lib.hid (if_neg (fun h => q0 h.1))
    go_enter Try.func17, Try.ntmps17
    go_wp2_with fail
    go_ret
    exact ⟨ret_u (by rw [HE.out]; rfl), rfl⟩
  by_cases q6 : i ≤ 6
  rotate_left
  · have HE : Hid (roomI i = 0#64) := Lib.hid (if_neg (fun h => q6 h.2))
    have q7 : ¬ i ≤ 6 := q6
    go_enter Try.func17, Try.ntmps17
    go_wp2_with fail
    go_ret
    exact ⟨ret_u (by rw [HE.out]; rfl), rfl⟩
  have key : ∀ N : Nat, N ≤ 64 → wrap64 (2 ^ i.toNat) = (N : Int) → roomI i = loB N → Calls Try.prog 17 #[.int .i64 i] w fun e w' => e = .returned (.int .u64 (U (roomI i))) ∧ w' = w := by
    intro N hN hs hR
    have HR := Lib.hid hR
    clear hR
    go_enter Try.func17, Try.ntmps17
    go_upto_block 0 with fail
    rw [hs]
    clear hs
    go_wp2_with fail
    go_loopw [3, 13] (fun u j wr => ∃ k : Nat, k ≤ N ∧ u = .int .u64 (U (loB k)) ∧ j = .int .i64 (k : Int) ∧ wr = w) (fun _ j _ => N - (intOf j).toNat)
    case atStart => exact ⟨0, Nat.zero_le _, rfl, rfl, rfl⟩
    case round =>
      obtain ⟨k, hk, rfl, rfl, rfl⟩ := hrel
      have hk0 : (0 : Int) ≤ (k : Int) := by omega
      by_cases hlt : k < N
      · have hki : (k : Int) < (N : Int) := by omega
        have hsh := sh1 .i64 k
        go_wp2_with fail
        go_roundw
        case rel => exact ⟨k + 1, by omega, (by rw [pw1, U_or]; rfl), (by first | go_num | rfl | trace_state), (by first | rfl | trivial)⟩
        all_goals first | done | (simp [intOf]; done) | (simp [intOf]; omega)
      · have hki : ¬ (k : Int) < (N : Int) := by omega
        have HK := Lib.hid (show k = N by omega)
        go_wp2_with fail
        go_ret
        exact ⟨ret_u (by rw [HR.out, HK.out]), rfl⟩
  have hc : i = 0 ∨ i = 1 ∨ i = 2 ∨ i = 3 ∨ i = 4 ∨ i = 5 ∨ i = 6 := by omega
  clear q0 q6
  rcases hc with rfl | rfl | rfl | rfl | rfl | rfl | rfl
  · exact key 1 (by decide) (by unfold wrap64; decide) rfl
  · exact key 2 (by decide) (by unfold wrap64; decide) rfl
  · exact key 4 (by decide) (by unfold wrap64; decide) rfl
  · exact key 8 (by decide) (by unfold wrap64; decide) rfl
  · exact key 16 (by decide) (by unfold wrap64; decide) rfl
  · exact key 32 (by decide) (by unfold wrap64; decide) rfl
  · exact key 64 (by decide) (by unfold wrap64; decide) rfl
set_option maxRecDepth 100000 in
set_option maxHeartbeats 4000000 in
theorem mask_any (i : Int) (w : World) : Calls Try.prog 16 #[.int .i64 i] w fun e w' => e = .returned (.int .u64 (U (roomI i))) ∧ Below w.heap.size w w' := by
  by_cases q0 : i < 0
  · have HE : Hid (roomI i = 0#64) := Lib.hid (if_neg (fun h => by omega))
    go_enter Try.func16, Try.ntmps16
    go_wp2_with fail
    go_ret
    exact ⟨ret_u (by rw [HE.out]; rfl), Below.refl _ _⟩
  by_cases q6 : 6 < i
  · have HE : Hid (roomI i = 0#64) := Lib.hid (if_neg (fun h => by omega))
    go_enter Try.func16, Try.ntmps16
    go_wp2_with fail
    go_ret
    exact ⟨ret_u (by rw [HE.out]; rfl), Below.refl _ _⟩
  have hc : i = 0 ∨ i = 1 ∨ i = 2 ∨ i = 3 ∨ i = 4 ∨ i = 5 ∨ i = 6 := by omega
  clear q0 q6
  rcases hc with rfl | rfl | rfl | rfl | rfl | rfl | rfl
  all_goals
    go_enter Try.func16, Try.ntmps16
    go_wp2_with fail
    go_ret
    exact ⟨ret_u (by decide), Below.refl _ _⟩
end Go.Proofs.Ytimojbjamfckmaa
