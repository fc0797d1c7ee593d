/- Plain and quoted names: the program. -/
import Derived.Test.YtogmipbdnffegaaGreatDoorLnMath
import Derived.Test.YtogmipbdnffegaaGreatDoorMgTok
namespace Go.Proofs.YtogmipbdnffegaaGreatDoor
open Go Go.RowKit
set_option linter.unusedVariables false
set_option maxRecDepth 100000 in
set_option maxHeartbeats 4000000 in
theorem plain_any (s : ByteArray) (w : World) (hG : LG w) : Calls Tryz.prog 12 #[.string s] w fun e w' => e = .returned (.bool (plN s)) ∧ Below w.heap.size w w' := by
  unfold plN
  by_cases h0 : 0 < s.size
  · have hn : (1 : Int) ≤ (s.size : Int) := by omega
    have hb : s[0].toNat = gb s 0 := gb_at s 0 h0
    have hne3 : ¬ s.toList = [] := tne s h0
    have hne : s.toList.isEmpty = false := by cases hl : s.toList with
      | nil => exact absurd hl hne3
      | cons a b => rfl
    have hne2 : (s.toList == []) = false := by cases hl : s.toList with
      | nil => exact absurd hl hne3
      | cons a b => rfl
    rw [decide_eq_true h0]
    by_cases h1 : s.size ≤ 40
    · rw [decide_eq_true h1]
      have hi : (s.size : Int) ≤ 40 := by omega
      have hS := fun W => span_W s (by omega) W
      have hI := fun W => isL_p (gb s 0) (gb_le s 0) W
      have hK := isWord_any s w hG
      have HK := Lib.hid hK
      clear hK
      cases hL : isL (gb s 0)
      · rw [hL] at hI
        have HI := Lib.hid hI
        have HS := Lib.hid hS
        clear hS hI hL
        generalize gb s 0 = c0 at *
        go_enter Tryz.func12, Tryz.ntmps12
        go_wp2_with (first | (with_reducible refine (HI.out _).mono ?_; rintro e w3 ⟨rfl, rfl⟩) | (with_reducible refine (HS.out _).mono ?_; rintro e w3 ⟨rfl, rfl⟩))
        go_ret
        exact ⟨rfl, Below.refl _ _⟩
      · rw [hL] at hI
        have HI := Lib.hid hI
        clear hI hL
        by_cases hq : span inW s = s.size
        · have hqi : ((span inW s : Nat) : Int) = (s.size : Int) := by rw [hq]
          have hqb : (span inW s == s.size) = true := beq_iff_eq.2 hq
          rw [hqb]
          rw [hq] at hS
          have HS := Lib.hid hS
          clear hS hqi hqb hq
          generalize gb s 0 = c0 at *
          generalize isKey s.data.toList = K at *
          go_enter Tryz.func12, Tryz.ntmps12
          go_wp2_with (first | (with_reducible refine (HI.out _).mono ?_; rintro e w3 ⟨rfl, rfl⟩) | (with_reducible refine (HS.out _).mono ?_; rintro e w3 ⟨rfl, rfl⟩) | (with_reducible refine (HK.out).mono ?_; rintro e w3 ⟨rfl, hb3⟩))
          go_ret
          exact ⟨rfl, hb3⟩
        · have hqi : (((span inW s : Nat) : Int) == (s.size : Int)) = false := beq_eq_false_iff_ne.2 (by omega)
          have hqb : (span inW s == s.size) = false := beq_eq_false_iff_ne.2 hq
          rw [hqb]
          generalize span inW s = n at *
          have HS := Lib.hid hS
          clear hS hqb hq
          generalize gb s 0 = c0 at *
          go_enter Tryz.func12, Tryz.ntmps12
          go_wp2_with (first | (with_reducible refine (HI.out _).mono ?_; rintro e w3 ⟨rfl, rfl⟩) | (with_reducible refine (HS.out _).mono ?_; rintro e w3 ⟨rfl, rfl⟩))
          go_ret
          exact ⟨rfl, Below.refl _ _⟩
    · have hi : ¬ (s.size : Int) ≤ 40 := by omega
      have hiK : (40 : Int) < (s.size : Int) := by omega
      rw [decide_eq_false h1]
      clear h1
      go_enter Tryz.func12, Tryz.ntmps12
      go_wp2_with fail
      go_ret
      exact ⟨rfl, Below.refl _ _⟩
  · obtain rfl : s = ⟨#[]⟩ := ByteArray.ext (Array.eq_empty_of_size_eq_zero (by show s.size = 0; omega))
    go_enter Tryz.func12, Tryz.ntmps12
    go_wp2_with fail
    go_ret
    exact ⟨rfl, Below.refl _ _⟩
set_option maxRecDepth 100000 in
set_option maxHeartbeats 1000000 in
theorem quoted_any (s : ByteArray) (w : World) : Calls Tryz.prog 14 #[.string s] w fun e w' => e = .returned (.bool (quN s)) ∧ Below w.heap.size w w' := by
  unfold quN
  by_cases h0 : 0 < s.size
  · have hn : (1 : Int) ≤ (s.size : Int) := by omega
    have hne3 : ¬ s.toList = [] := tne s h0
    have hne : s.toList.isEmpty = false := by cases hl : s.toList with
      | nil => exact absurd hl hne3
      | cons a b => rfl
    have hne2 : (s.toList == []) = false := by cases hl : s.toList with
      | nil => exact absurd hl hne3
      | cons a b => rfl
    rw [decide_eq_true h0]
    by_cases h1 : s.size ≤ 40
    · rw [decide_eq_true h1]
      have hi : (s.size : Int) ≤ 40 := by omega
      have hS := fun W => span_Q s (by omega) W
      generalize span inQ s = n at *
      have HS := Lib.hid hS
      clear hS
      by_cases hq : n = s.size
      · have hqi : ((n : Int) == (s.size : Int)) = true := by rw [hq]; exact beq_self_eq_true _
        have hqb : (n == s.size) = true := beq_iff_eq.2 hq
        rw [hqb]
        clear hqb hq
        go_enter Tryz.func14, Tryz.ntmps14
        go_wp2_with (with_reducible refine (HS.out _).mono ?_; rintro e w3 ⟨rfl, rfl⟩)
        go_ret
        exact ⟨rfl, Below.refl _ _⟩
      · have hqi : ((n : Int) == (s.size : Int)) = false := beq_eq_false_iff_ne.2 (by omega)
        have hqb : (n == s.size) = false := beq_eq_false_iff_ne.2 hq
        rw [hqb]
        clear hqb
        go_enter Tryz.func14, Tryz.ntmps14
        go_wp2_with (with_reducible refine (HS.out _).mono ?_; rintro e w3 ⟨rfl, rfl⟩)
        go_ret
        exact ⟨rfl, Below.refl _ _⟩
    · have hi : ¬ (s.size : Int) ≤ 40 := by omega
      rw [decide_eq_false h1]
      clear h1
      go_enter Tryz.func14, Tryz.ntmps14
      go_wp2_with fail
      go_ret
      exact ⟨rfl, Below.refl _ _⟩
  · obtain rfl : s = ⟨#[]⟩ := ByteArray.ext (Array.eq_empty_of_size_eq_zero (by show s.size = 0; omega))
    go_enter Tryz.func14, Tryz.ntmps14
    go_wp2_with fail
    go_ret
    exact ⟨rfl, Below.refl _ _⟩
end Go.Proofs.YtogmipbdnffegaaGreatDoor
