/- Plain and quoted names: the reference. -/
import Derived.Test.YtogmipbdnffegaaGreatDoorLnMath
import Derived.Test.YtogmipbdnffegaaGreatDoorMgRun
namespace Go.Proofs.YtogmipbdnffegaaGreatDoor
open Go Go.RowKit
set_option linter.unusedVariables false
set_option maxRecDepth 100000 in
set_option maxHeartbeats 4000000 in
theorem rplain_any (s : ByteArray) (w : World) : Calls Tryz.prog 13 #[.string s] w fun e w' => e = .returned (.bool (plN s)) ∧ Below w.heap.size w w' := by
  unfold plN
  by_cases h0 : 0 < s.size
  · have hn : (1 : Int) ≤ (s.size : Int) := by omega
    have hb : s[0].toNat = gb s 0 := gb_at s 0 h0
    have hne3 : ¬ s.toList = [] := tne s h0
    have hne : s.toList.isEmpty = false := by cases hl : s.toList with
      | nil => exact absurd hl hne3
      | cons a b => rfl
    have hne2 : (s.toList == []) = false := by cases hl : s.toList with
      | nil => exact absurd hl hne3
      | cons a b => rfl
    rw [decide_eq_true h0]
    by_cases h1 : s.size ≤ 40
    · rw [decide_eq_true h1]
      have hi : (s.size : Int) ≤ 40 := by omega
      have hS := fun W => run_W s (by omega) W
      have hI := fun W => isL_r (gb s 0) (gb_le s 0) W
      have z32 : (ByteArray.mk #[32]).size = 1 := rfl
      have zc : (ByteArray.mk #[32] ++ s ++ ByteArray.mk #[32]).size = s.size + 2 := by rw [ByteArray.size_append, ByteArray.size_append, z32]; omega
      have hKA := fun h w1 => (key_all s h) ▸ contains_any wordsT (ByteArray.mk #[32] ++ s ++ ByteArray.mk #[32]) (by show wordsT.data.size ≤ _; decide +kernel) (by omega) (by omega) w1
      have HKA := Lib.hid hKA
      clear hKA
      cases hL : isL (gb s 0)
      · rw [hL] at hI
        have HI := Lib.hid hI
        have HS := Lib.hid hS
        clear hS hI hL
        generalize gb s 0 = c0 at *
        go_enter Tryz.func13, Tryz.ntmps13
        go_wp2_with (first | (with_reducible refine (HI.out _).mono ?_; rintro e w3 ⟨rfl, rfl⟩) | (with_reducible refine (HS.out _).mono ?_; rintro e w3 ⟨rfl, rfl⟩))
        go_ret
        exact ⟨rfl, Below.refl _ _⟩
      · rw [hL] at hI
        have HI := Lib.hid hI
        clear hI hL
        by_cases hq : span inW s = s.size
        · have hqi : ((span inW s : Nat) : Int) = (s.size : Int) := by rw [hq]
          have hqb : (span inW s == s.size) = true := beq_iff_eq.2 hq
          rw [hqb]
          rw [hq] at hS
          have hK := HKA.out hq
          unfold wordsT at hK
          have HK := Lib.hid hK
          clear hK HKA
          have HS := Lib.hid hS
          clear hS hqi hqb hq
          generalize gb s 0 = c0 at *
          generalize isKey s.data.toList = K at *
          go_enter Tryz.func13, Tryz.ntmps13
          go_wp2_with (first | (with_reducible refine (HI.out _).mono ?_; rintro e w3 ⟨rfl, rfl⟩) | (with_reducible refine (HS.out _).mono ?_; rintro e w3 ⟨rfl, rfl⟩) | (go_at_call 31; refine (HK.out _).mono ?_; rintro e w3 ⟨rfl, rfl⟩))
          go_ret
          exact ⟨rfl, Below.refl _ _⟩
        · have hqi : (((span inW s : Nat) : Int) == (s.size : Int)) = false := beq_eq_false_iff_ne.2 (by omega)
          have hqb : (span inW s == s.size) = false := beq_eq_false_iff_ne.2 hq
          rw [hqb]
          generalize span inW s = n at *
          have HS := Lib.hid hS
          clear hS hqb hq
          generalize gb s 0 = c0 at *
          go_enter Tryz.func13, Tryz.ntmps13
          go_wp2_with (first | (with_reducible refine (HI.out _).mono ?_; rintro e w3 ⟨rfl, rfl⟩) | (with_reducible refine (HS.out _).mono ?_; rintro e w3 ⟨rfl, rfl⟩))
          go_ret
          exact ⟨rfl, Below.refl _ _⟩
    · have hi : ¬ (s.size : Int) ≤ 40 := by omega
      have hiK : (40 : Int) < (s.size : Int) := by omega
      rw [decide_eq_false h1]
      clear h1
      go_enter Tryz.func13, Tryz.ntmps13
      go_wp2_with fail
      go_ret
      exact ⟨rfl, Below.refl _ _⟩
  · obtain rfl : s = ⟨#[]⟩ := ByteArray.ext (Array.eq_empty_of_size_eq_zero (by show s.size = 0; omega))
    go_enter Tryz.func13, Tryz.ntmps13
    go_wp2_with fail
    go_ret
    exact ⟨rfl, Below.refl _ _⟩
set_option maxRecDepth 100000 in
set_option maxHeartbeats 1000000 in
theorem rquoted_any (s : ByteArray) (w : World) : Calls Tryz.prog 15 #[.string s] w fun e w' => e = .returned (.bool (quN s)) ∧ Below w.heap.size w w' := by
  unfold quN
  by_cases h0 : 0 < s.size
  · have hn : (1 : Int) ≤ (s.size : Int) := by omega
    have hne3 : ¬ s.toList = [] := tne s h0
    have hne : s.toList.isEmpty = false := by cases hl : s.toList with
      | nil => exact absurd hl hne3
      | cons a b => rfl
    have hne2 : (s.toList == []) = false := by cases hl : s.toList with
      | nil => exact absurd hl hne3
      | cons a b => rfl
    rw [decide_eq_true h0]
    by_cases h1 : s.size ≤ 40
    · rw [decide_eq_true h1]
      have hi : (s.size : Int) ≤ 40 := by omega
      have hS := fun W => run_Q s (by omega) W
      generalize span inQ s = n at *
      have HS := Lib.hid hS
      clear hS
      by_cases hq : n = s.size
      · have hqi : ((n : Int) == (s.size : Int)) = true := by rw [hq]; exact beq_self_eq_true _
        have hqb : (n == s.size) = true := beq_iff_eq.2 hq
        rw [hqb]
        clear hqb hq
        go_enter Tryz.func15, Tryz.ntmps15
        go_wp2_with (with_reducible refine (HS.out _).mono ?_; rintro e w3 ⟨rfl, hb3⟩)
        go_ret
        exact ⟨rfl, hb3⟩
      · have hqi : ((n : Int) == (s.size : Int)) = false := beq_eq_false_iff_ne.2 (by omega)
        have hqb : (n == s.size) = false := beq_eq_false_iff_ne.2 hq
        rw [hqb]
        clear hqb
        go_enter Tryz.func15, Tryz.ntmps15
        go_wp2_with (with_reducible refine (HS.out _).mono ?_; rintro e w3 ⟨rfl, hb3⟩)
        go_ret
        exact ⟨rfl, hb3⟩
    · have hi : ¬ (s.size : Int) ≤ 40 := by omega
      rw [decide_eq_false h1]
      clear h1
      go_enter Tryz.func15, Tryz.ntmps15
      go_wp2_with fail
      go_ret
      exact ⟨rfl, Below.refl _ _⟩
  · obtain rfl : s = ⟨#[]⟩ := ByteArray.ext (Array.eq_empty_of_size_eq_zero (by show s.size = 0; omega))
    go_enter Tryz.func15, Tryz.ntmps15
    go_wp2_with fail
    go_ret
    exact ⟨rfl, Below.refl _ _⟩
end Go.Proofs.YtogmipbdnffegaaGreatDoor
