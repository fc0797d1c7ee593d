/- Reading a vector's text: the digits. -/
import Derived.Test.YtgmgmkhcadimjaaDoorOps2
namespace Go.Proofs.YtgmgmkhcadimjaaDoor
open Go Go.RowKit
set_option linter.unusedVariables false
theorem ret_bool {a b : Bool} (h : a = b) : Ending.returned (.bool a) = .returned (.bool b) := by rw [h]
def dv (c : Nat) : Nat := if 48 ≤ c ∧ c ≤ 57 then c - 48 else if 97 ≤ c ∧ c ≤ 102 then c - 87 else 16
theorem dv_le (c : Nat) : dv c ≤ 16 := by unfold dv; (repeat' split) <;> omega
set_option maxHeartbeats 400000 in
theorem digitValue_any (c : Nat) (hc : c ≤ 255) (w : World) : Calls Tryd.prog 33 #[.int .u8 c] w fun e w' => e = .returned (.int .i64 (dv c)) ∧ w = w' := by
  by_cases h1 : 48 ≤ c ∧ c ≤ 57
  · obtain ⟨a1, a2⟩ := h1
    go_enter Tryd.func33, Tryd.ntmps33
    go_wp2_with fail
    go_ret
    exact ⟨ret_int (by unfold dv; rw [if_pos ⟨a1, a2⟩]; omega), rfl⟩
  · by_cases h2 : 97 ≤ c ∧ c ≤ 102
    · obtain ⟨a1, a2⟩ := h2
      clear h1
      go_enter Tryd.func33, Tryd.ntmps33
      go_wp2_with fail
      go_ret
      exact ⟨ret_int (by unfold dv; rw [if_neg (by omega), if_pos ⟨a1, a2⟩]; omega), rfl⟩
    · have e : dv c = 16 := by unfold dv; rw [if_neg h1, if_neg h2]
      have H := Lib.hid e
      clear e
      go_enter Tryd.func33, Tryd.ntmps33
      go_wp2_with fail
      all_goals
        go_ret
        exact ⟨ret_int (by rw [H.out]; rfl), rfl⟩
def isDig (c : Nat) : Bool := decide (dv c < 10)
set_option maxHeartbeats 400000 in
theorem isDecimal_any (c : Nat) (hc : c ≤ 255) (w : World) : Calls Tryd.prog 30 #[.int .u8 c] w fun e w' => e = .returned (.bool (isDig c)) ∧ w = w' := by
  have hd := dv_le c
  go_enter Tryd.func30, Tryd.ntmps30
  go_wp2_with fail
  refine (digitValue_any c hc _).mono ?_
  rintro e w' ⟨rfl, rfl⟩
  go_wp2_with fail
  go_ret
  exact ⟨ret_bool (by unfold isDig; rw [decide_eq_decide]; omega), rfl⟩
def digOk (size c : Nat) : Bool := c == 120 || c == 122 || decide (dv c < 2 ^ size)
theorem pow_wrap {n : Nat} (h : n ≤ 4) : wrap64 (2 ^ n) = ((2 ^ n : Nat) : Int) := by
  have h5 : n = 0 ∨ n = 1 ∨ n = 2 ∨ n = 3 ∨ n = 4 := by omega
  rcases h5 with rfl | rfl | rfl | rfl | rfl <;> exact (IntWalk.wrap64_in _ (by decide)).trans (by decide)
set_option maxHeartbeats 400000 in
theorem clos_any (c size b : Nat) (hc : c ≤ 255) (hs : size ≤ 4) (w : World) (h : w.cell? ⟨b, 0, none⟩ = some (.int .i64 size)) :
    Calls Tryd.prog 32 #[.int .u8 c, .pointer (some ⟨b, 0, none⟩)] w fun e w' => e = .returned (.bool (digOk size c)) ∧ ∃ n, w' = w.drewN n := by
  have hd := dv_le c
  by_cases h1 : c = 120
  · subst h1
    go_enter Tryd.func32, Tryd.ntmps32
    go_wp2_with fail
    go_quiet (fail)
    go_wp2_with fail
    go_ret
    exact ⟨rfl, nq, rfl⟩
  · by_cases h2 : c = 122
    · subst h2
      go_enter Tryd.func32, Tryd.ntmps32
      go_wp2_with fail
      go_quiet (fail)
      go_wp2_with fail
      go_ret
      exact ⟨rfl, nq, rfl⟩
    · have e1 : ((c : Int) == 120) = false := beq_eq_false_iff_ne.2 (by omega)
      have e2 : ((c : Int) == 122) = false := beq_eq_false_iff_ne.2 (by omega)
      have C1 := Lib.hid h1
      have C2 := Lib.hid h2
      clear h1 h2
      go_enter Tryd.func32, Tryd.ntmps32
      go_wp2_with fail
      go_quiet ((go_at_call 33; exact Calls.quiet_of_same ((digitValue_any c hc _).mono fun _ _ ⟨a, b⟩ => ⟨a, b.symm⟩)))
      go_wp2_with fail
      go_ret
      exact ⟨ret_bool (by unfold digOk; rw [show (c == 120) = false from by simpa using C1.out, show (c == 122) = false from by simpa using C2.out, Bool.false_or, Bool.false_or, decide_eq_decide, pow_wrap hs]; norm_cast), nq, rfl⟩
def allB (f : UInt8 → Bool) (s : ByteArray) : Bool := s.data.toList.all f
theorem all_snoc (f : UInt8 → Bool) (s : ByteArray) (k : Nat) (h : k < s.size) : (s.data.toList.take (k + 1)).all f = ((s.data.toList.take k).all f && f s[k]) := by
  have : s.data.toList.take (k + 1) = s.data.toList.take k ++ [s[k]] := by rw [List.take_succ_eq_append_getElem (by simpa using h)]; rfl
  rw [this, List.all_append]; simp
theorem all_false (f : UInt8 → Bool) (s : ByteArray) (k : Nat) (h : k < s.size) (hf : f s[k] = false) : s.data.toList.all f = false := by
  rw [List.all_eq_false]; exact ⟨s[k], Array.mem_toList_iff.2 (Array.getElem_mem (xs := s.data) h), by simpa using hf⟩
set_option maxHeartbeats 400000 in
theorem every_dec (s : ByteArray) (hs : s.size ≤ 9223372036854775807) (w : World) :
    Calls Tryd.prog 29 #[.string s, .func (.func 30) #[] #[]] w fun e w' => e = .returned (.bool (allB (fun c => isDig c.toNat) s)) ∧ w = w' := by
  go_enter Tryd.func29, Tryd.ntmps29
  go_wp2_with fail
  go_loop [8] (fun i => ∃ k : Nat, k ≤ s.size ∧ i = .int .i64 k ∧ Hid ((s.data.toList.take k).all (fun c => isDig c.toNat) = true)) (fun i => s.size - (intOf i).toNat)
  case atStart => exact ⟨0, Nat.zero_le _, rfl, rfl⟩
  case round =>
    obtain ⟨k, hk, rfl, hall⟩ := hrel
    by_cases hlt : k < s.size
    · have hb : s[k].toNat ≤ 255 := by have := s[k].toNat_lt; omega
      go_wp2_with fail
      refine (isDecimal_any _ hb _).mono ?_
      rintro e w' ⟨rfl, rfl⟩
      by_cases hd : isDig s[k].toNat = true
      · go_wp2_with fail
        go_round
        case rel => exact ⟨k + 1, by omega, by go_num, by show _ = true; rw [all_snoc _ _ _ hlt, hall.out, hd]; rfl⟩
        case measure => simp [intOf]; omega
      · have hd' : isDig s[k].toNat = false := by simpa using hd
        clear hd
        have hz : allB (fun c => isDig c.toNat) s = false := all_false (fun c => isDig c.toNat) s k hlt hd'
        have HZ := Lib.hid hz
        clear hz
        go_wp2_with fail
        go_ret
        exact ⟨ret_bool HZ.out.symm, rfl⟩
    · have hz : allB (fun c => isDig c.toNat) s = true := by
        unfold allB
        have h1 := hall.out
        rwa [List.take_of_length_le (by simp; omega)] at h1
      have HZ := Lib.hid hz
      clear hz
      go_wp2_with fail
      go_ret
      exact ⟨ret_bool HZ.out.symm, rfl⟩
set_option maxHeartbeats 400000 in
theorem every_clos (s : ByteArray) (hs : s.size ≤ 9223372036854775807) (size b : Nat) (hz : size ≤ 4) (w : World) (h : w.cell? ⟨b, 0, none⟩ = some (.int .i64 size)) :
    Calls Tryd.prog 29 #[.string s, .func (.func 32) #[] #[.pointer (some ⟨b, 0, none⟩)]] w fun e w' => e = .returned (.bool (allB (fun c => digOk size c.toNat) s)) ∧ ∃ n, w' = w.drewN n := by
  go_enter Tryd.func29, Tryd.ntmps29
  go_wp2_with fail
  go_loopw [8] (fun i wr => ∃ k : Nat, k ≤ s.size ∧ i = .int .i64 k ∧ Hid ((s.data.toList.take k).all (fun c => digOk size c.toNat) = true) ∧ Hid (∃ n, wr = w.drewN n)) (fun i _ => s.size - (intOf i).toNat)
  case atStart => exact ⟨0, Nat.zero_le _, rfl, rfl, 0, rfl⟩
  case round =>
    obtain ⟨k, hk, rfl, hall, hw⟩ := hrel
    obtain ⟨n, rfl⟩ := hw.out
    have hc : (w.drewN n).cell? ⟨b, 0, none⟩ = some (.int .i64 size) := h
    by_cases hlt : k < s.size
    · have hb : s[k].toNat ≤ 255 := by have := s[k].toNat_lt; omega
      go_wp2_with fail
      refine (clos_any _ size b hb hz _ hc).mono ?_
      rintro e w' ⟨rfl, n', hw'⟩
      subst hw'
      by_cases hd : digOk size s[k].toNat = true
      · go_wp2_with fail
        go_roundw
        case rel => exact ⟨k + 1, by omega, by go_num, by show _ = true; rw [all_snoc _ _ _ hlt, hall.out, hd]; rfl, ⟨n + n', rfl⟩⟩
        case measure => simp [intOf]; omega
      · have hd' : digOk size s[k].toNat = false := by simpa using hd
        clear hd
        have hz' : allB (fun c => digOk size c.toNat) s = false := all_false (fun c => digOk size c.toNat) s k hlt hd'
        have HZ := Lib.hid hz'
        clear hz'
        go_wp2_with fail
        go_ret
        exact ⟨ret_bool HZ.out.symm, ⟨n + n', rfl⟩⟩
    · have hz' : allB (fun c => digOk size c.toNat) s = true := by
        unfold allB
        have h1 := hall.out
        rwa [List.take_of_length_le (by simp; omega)] at h1
      have HZ := Lib.hid hz'
      clear hz'
      go_wp2_with fail
      go_ret
      exact ⟨ret_bool HZ.out.symm, ⟨n, rfl⟩⟩
end Go.Proofs.YtgmgmkhcadimjaaDoor
