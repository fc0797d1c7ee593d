/- The reference's decimal numbers. -/
import Derived.Test.YtmimihjbepjnfaaGreatDoorBase
import Derived.Lib.QuietBelow
import Derived.LoopTactic
import Derived.Lib.AppendStr
import Derived.Laws.IdiomStrings
import Derived.Lib.ItoaNum
namespace Go.Proofs.YtmimihjbepjnfaaGreatDoor
open Go Go.RowKit
set_option linter.unusedVariables false
theorem ret_str {a b : ByteArray} (h : a = b) : Ending.returned (.string a) = .returned (.string b) := by rw [h]
theorem dec_small (n : Nat) (h : n < 10) : Lib.decDigits n = [UInt8.ofNat (48 + n)] := by rw [Lib.decDigits, dif_pos h]
theorem dec_big (n : Nat) (h : ¬ n < 10) : Lib.decDigits n = Lib.decDigits (n / 10) ++ [UInt8.ofNat (48 + n % 10)] := by rw [Lib.decDigits, dif_neg h]
theorem dec_len (k : Nat) : ∀ n : Nat, n ≤ k → (Lib.decDigits n).length ≤ k + 1 := by
  induction k with
  | zero => intro n h; rw [dec_small n (by omega)]; simp
  | succ k ih =>
    intro n h
    by_cases h10 : n < 10
    · rw [dec_small n h10]; simp
    · rw [dec_big n h10]
      have := ih (n / 10) (by omega)
      simp; omega
theorem digit_byte (n : Nat) : ((UInt8.ofNat (48 + n % 10)).toNat : Int) = 48 + (n : Int) % 10 := by
  simp; omega
theorem conv_digit (n : Nat) (w : World) : (convert 54 9 (.slice (some ⟨w.heap.size, 0, none⟩) 1 1)).run Tryz.prog (w.alloc (.cells #[.int .u8 (48 + (n : Int) % 10)] 5)) = .ok (.string ⟨#[UInt8.ofNat (48 + n % 10)]⟩) (w.alloc (.cells #[.int .u8 (48 + (n : Int) % 10)] 5)) := by
  refine run_convert_bytes_back (P := Tryz.prog) (w.alloc (.cells #[.int .u8 (48 + (n : Int) % 10)] 5)) 54 9 5 ⟨w.heap.size, 0, none⟩ 1 [UInt8.ofNat (48 + n % 10)] Tryz.underlying54 Tryz.underlying5 Tryz.underlying9 ?_
  intro q hq
  match q, hq with
  | 0, _ =>
    have e := digit_byte n
    show World.cell? _ ⟨w.heap.size, 0, none⟩ = some (.int .u8 ((UInt8.ofNat (48 + n % 10)).toNat : Int))
    rw [e]; go_simp
set_option maxRecDepth 100000 in
set_option maxHeartbeats 800000 in
theorem decimal_small (n : Nat) (h : n < 10) (w : World) :
    Calls Tryz.prog 29 #[.int .i64 n] w fun e w' => e = .returned (.string ⟨(Lib.decDigits n).toArray⟩) ∧ Below w.heap.size w w' := by
  have h0 : (0 : Int) ≤ (n : Int) := by omega
  have h1 : (n : Int) < 10 := by omega
  have hconv := conv_digit n w
  have HD : Hid ((⟨#[UInt8.ofNat (48 + n % 10)]⟩ : ByteArray) = ⟨(Lib.decDigits n).toArray⟩) := by
    show _ = _
    rw [dec_small n h, Nat.mod_eq_of_lt h]
  generalize UInt8.ofNat (48 + n % 10) = c at hconv HD
  go_enter Tryz.func29, Tryz.ntmps29
  go_wp2_with fail
  go_ret
  exact ⟨ret_str HD.out, (Below.refl _ _).alloc (Nat.le_refl _) _⟩
set_option maxRecDepth 100000 in
set_option maxHeartbeats 800000 in
theorem decimal_any (k : Nat) : ∀ (n : Nat) (w : World), n ≤ k → k ≤ 100000 →
    Calls Tryz.prog 29 #[.int .i64 n] w fun e w' => e = .returned (.string ⟨(Lib.decDigits n).toArray⟩) ∧ Below w.heap.size w w' := by
  induction k with
  | zero => intro n w hn _; exact decimal_small n (by omega) w
  | succ k ih =>
    intro n w hn hk
    by_cases h10 : n < 10
    · exact decimal_small n h10 w
    · have h0 : (0 : Int) ≤ (n : Int) := by omega
      have h1 : ¬ (n : Int) < 10 := by omega
      have hconv := conv_digit n w
      have hl := dec_len k (n / 10) (by omega)
      have hq : (n : Int) / 10 = ((n / 10 : Nat) : Int) := by omega
      have HQ := Lib.hid hq
      have IH := Lib.hid ih
      have hz : (⟨(Lib.decDigits (n / 10)).toArray⟩ : ByteArray).size = (Lib.decDigits (n / 10)).length := by
        show (Lib.decDigits (n / 10)).toArray.size = _
        simp
      have hsum : ¬ 9223372036854775807 < (⟨(Lib.decDigits (n / 10)).toArray⟩ : ByteArray).size + 1 := by rw [hz]; omega
      have HD : Hid ((⟨(Lib.decDigits (n / 10)).toArray⟩ : ByteArray) ++ ⟨#[UInt8.ofNat (48 + n % 10)]⟩ = ⟨(Lib.decDigits n).toArray⟩) := by
        show _ = _
        rw [dec_big n h10]
        apply ByteArray.ext
        simp
      generalize UInt8.ofNat (48 + n % 10) = c at hconv HD
      generalize hT : (⟨(Lib.decDigits (n / 10)).toArray⟩ : ByteArray) = T at hsum HD
      have HT := Lib.hid hT
      clear hT hz ih hq hl
      go_enter Tryz.func29, Tryz.ntmps29
      go_wp2_with fail
      rw [HQ.out]
      refine (IH.out (n / 10) _ (by omega) (by omega)).mono ?_
      rintro e w1 ⟨rfl, hb1⟩
      rw [HT.out]
      go_wp2_with fail
      go_ret
      exact ⟨ret_str HD.out, ((Below.refl _ _).alloc (Nat.le_refl _) _).trans (hb1.mono (by simp))⟩
theorem dec_len5 (n : Nat) (h : n < 100000) : (Lib.decDigits n).length ≤ 5 := by
  by_cases h1 : n < 10
  · rw [dec_small n h1]; simp
  rw [dec_big n h1]
  by_cases h2 : n / 10 < 10
  · rw [dec_small _ h2]; simp
  rw [dec_big _ h2]
  by_cases h3 : n / 10 / 10 < 10
  · rw [dec_small _ h3]; simp
  rw [dec_big _ h3]
  by_cases h4 : n / 10 / 10 / 10 < 10
  · rw [dec_small _ h4]; simp
  rw [dec_big _ h4, dec_small _ (by omega)]; simp
end Go.Proofs.YtmimihjbepjnfaaGreatDoor
