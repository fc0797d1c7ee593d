/- The classes of bytes: the program's functions and the reference's.
   How many bytes of a class a text begins with: the program's span. -/
import Derived.Test.YtogmipbdnffegaaGreatDoorLxMath
import Derived.Test.YtogmipbdnffegaaGreatDoorShelf
import Derived.Lib.IndexLaws
namespace Go.Proofs.YtogmipbdnffegaaGreatDoor
open Go Go.RowKit
set_option linter.unusedVariables false
theorem retB {a b : Bool} (h : a = b) : Ending.returned (.bool a) = .returned (.bool b) := by rw [h]
set_option maxHeartbeats 400000 in
theorem isL_p (c : Nat) (hc : c ≤ 255) (w : World) : Calls Tryz.prog 24 #[.int .u8 c] w fun e w' => e = .returned (.bool (isL c)) ∧ w = w' := by
  by_cases h1 : 97 ≤ c
  · by_cases h2 : c ≤ 122
    · have k0 : (97 : Int) ≤ (c : Int) := by first | omega | exact beq_eq_false_iff_ne.2 (by omega) | (subst_vars; rfl)
      have k1 : (c : Int) ≤ 122 := by first | omega | exact beq_eq_false_iff_ne.2 (by omega) | (subst_vars; rfl)
      have HB : Hid (isL c = true) := Lib.hid (by unfold isL; simp <;> omega)
      try clear h5
      go_enter Tryz.func24, Tryz.ntmps24
      go_wp2_with fail
      go_ret
      exact ⟨retB (by first | exact HB.out.symm | (rw [HB.out]; exact decide_eq_false (by omega)) | (rw [HB.out]; simp [bne, k0])), rfl⟩
    · have k0 : (97 : Int) ≤ (c : Int) := by first | omega | exact beq_eq_false_iff_ne.2 (by omega) | (subst_vars; rfl)
      have k1 : ¬ ((c : Int) ≤ 122) := by first | omega | exact beq_eq_false_iff_ne.2 (by omega) | (subst_vars; rfl)
      have k2 : (65 : Int) ≤ (c : Int) := by first | omega | exact beq_eq_false_iff_ne.2 (by omega) | (subst_vars; rfl)
      have k3 : ¬ ((c : Int) ≤ 90) := by first | omega | exact beq_eq_false_iff_ne.2 (by omega) | (subst_vars; rfl)
      have k4 : ((c : Int) == 95) = false := by first | omega | exact beq_eq_false_iff_ne.2 (by omega) | (subst_vars; rfl)
      have HB : Hid (isL c = false) := Lib.hid (by unfold isL; simp <;> omega)
      try clear h5
      go_enter Tryz.func24, Tryz.ntmps24
      go_wp2_with fail
      go_ret
      exact ⟨retB (by first | exact HB.out.symm | (rw [HB.out]; exact decide_eq_false (by omega)) | (rw [HB.out]; simp [bne, k0])), rfl⟩
  · by_cases h3 : 65 ≤ c
    · by_cases h4 : c ≤ 90
      · have k0 : ¬ ((97 : Int) ≤ (c : Int)) := by first | omega | exact beq_eq_false_iff_ne.2 (by omega) | (subst_vars; rfl)
        have k1 : (65 : Int) ≤ (c : Int) := by first | omega | exact beq_eq_false_iff_ne.2 (by omega) | (subst_vars; rfl)
        have k2 : (c : Int) ≤ 90 := by first | omega | exact beq_eq_false_iff_ne.2 (by omega) | (subst_vars; rfl)
        have HB : Hid (isL c = true) := Lib.hid (by unfold isL; simp <;> omega)
        try clear h5
        go_enter Tryz.func24, Tryz.ntmps24
        go_wp2_with fail
        go_ret
        exact ⟨retB (by first | exact HB.out.symm | (rw [HB.out]; exact decide_eq_false (by omega)) | (rw [HB.out]; simp [bne, k0])), rfl⟩
      · by_cases h5 : c = 95
        · have k0 : ¬ ((97 : Int) ≤ (c : Int)) := by first | omega | exact beq_eq_false_iff_ne.2 (by omega) | (subst_vars; rfl)
          have k1 : (65 : Int) ≤ (c : Int) := by first | omega | exact beq_eq_false_iff_ne.2 (by omega) | (subst_vars; rfl)
          have k2 : ¬ ((c : Int) ≤ 90) := by first | omega | exact beq_eq_false_iff_ne.2 (by omega) | (subst_vars; rfl)
          have k3 : ((c : Int) == 95) = true := by first | omega | exact beq_eq_false_iff_ne.2 (by omega) | (subst_vars; rfl)
          have HB : Hid (isL c = true) := Lib.hid (by unfold isL; simp <;> omega)
          try clear h5
          go_enter Tryz.func24, Tryz.ntmps24
          go_wp2_with fail
          go_ret
          exact ⟨retB (by first | exact HB.out.symm | (rw [HB.out]; exact decide_eq_false (by omega)) | (rw [HB.out]; simp [bne, k0])), rfl⟩
        · have k0 : ¬ ((97 : Int) ≤ (c : Int)) := by first | omega | exact beq_eq_false_iff_ne.2 (by omega) | (subst_vars; rfl)
          have k1 : (65 : Int) ≤ (c : Int) := by first | omega | exact beq_eq_false_iff_ne.2 (by omega) | (subst_vars; rfl)
          have k2 : ¬ ((c : Int) ≤ 90) := by first | omega | exact beq_eq_false_iff_ne.2 (by omega) | (subst_vars; rfl)
          have k3 : ((c : Int) == 95) = false := by first | omega | exact beq_eq_false_iff_ne.2 (by omega) | (subst_vars; rfl)
          have HB : Hid (isL c = false) := Lib.hid (by unfold isL; simp <;> omega)
          try clear h5
          go_enter Tryz.func24, Tryz.ntmps24
          go_wp2_with fail
          go_ret
          exact ⟨retB (by first | exact HB.out.symm | (rw [HB.out]; exact decide_eq_false (by omega)) | (rw [HB.out]; simp [bne, k0])), rfl⟩
    · have k0 : ¬ ((97 : Int) ≤ (c : Int)) := by first | omega | exact beq_eq_false_iff_ne.2 (by omega) | (subst_vars; rfl)
      have k1 : ¬ ((65 : Int) ≤ (c : Int)) := by first | omega | exact beq_eq_false_iff_ne.2 (by omega) | (subst_vars; rfl)
      have k2 : ((c : Int) == 95) = false := by first | omega | exact beq_eq_false_iff_ne.2 (by omega) | (subst_vars; rfl)
      have HB : Hid (isL c = false) := Lib.hid (by unfold isL; simp <;> omega)
      try clear h5
      go_enter Tryz.func24, Tryz.ntmps24
      go_wp2_with fail
      go_ret
      exact ⟨retB (by first | exact HB.out.symm | (rw [HB.out]; exact decide_eq_false (by omega)) | (rw [HB.out]; simp [bne, k0])), rfl⟩
set_option maxHeartbeats 400000 in
theorem isL_r (c : Nat) (hc : c ≤ 255) (w : World) : Calls Tryz.prog 28 #[.int .u8 c] w fun e w' => e = .returned (.bool (isL c)) ∧ w = w' := by
  by_cases h1 : 97 ≤ c
  · by_cases h2 : c ≤ 122
    · have k0 : (97 : Int) ≤ (c : Int) := by first | omega | exact beq_eq_false_iff_ne.2 (by omega) | (subst_vars; rfl)
      have k1 : (c : Int) ≤ 122 := by first | omega | exact beq_eq_false_iff_ne.2 (by omega) | (subst_vars; rfl)
      have HB : Hid (isL c = true) := Lib.hid (by unfold isL; simp <;> omega)
      try clear h5
      go_enter Tryz.func28, Tryz.ntmps28
      go_wp2_with fail
      go_ret
      exact ⟨retB (by first | exact HB.out.symm | (rw [HB.out]; exact decide_eq_false (by omega)) | (rw [HB.out]; simp [bne, k0])), rfl⟩
    · have k0 : (97 : Int) ≤ (c : Int) := by first | omega | exact beq_eq_false_iff_ne.2 (by omega) | (subst_vars; rfl)
      have k1 : ¬ ((c : Int) ≤ 122) := by first | omega | exact beq_eq_false_iff_ne.2 (by omega) | (subst_vars; rfl)
      have k2 : (65 : Int) ≤ (c : Int) := by first | omega | exact beq_eq_false_iff_ne.2 (by omega) | (subst_vars; rfl)
      have k3 : ¬ ((c : Int) ≤ 90) := by first | omega | exact beq_eq_false_iff_ne.2 (by omega) | (subst_vars; rfl)
      have k4 : ((c : Int) == 95) = false := by first | omega | exact beq_eq_false_iff_ne.2 (by omega) | (subst_vars; rfl)
      have HB : Hid (isL c = false) := Lib.hid (by unfold isL; simp <;> omega)
      try clear h5
      go_enter Tryz.func28, Tryz.ntmps28
      go_wp2_with fail
      go_ret
      exact ⟨retB (by first | exact HB.out.symm | (rw [HB.out]; exact decide_eq_false (by omega)) | (rw [HB.out]; simp [bne, k0])), rfl⟩
  · by_cases h3 : 65 ≤ c
    · by_cases h4 : c ≤ 90
      · have k0 : ¬ ((97 : Int) ≤ (c : Int)) := by first | omega | exact beq_eq_false_iff_ne.2 (by omega) | (subst_vars; rfl)
        have k1 : (65 : Int) ≤ (c : Int) := by first | omega | exact beq_eq_false_iff_ne.2 (by omega) | (subst_vars; rfl)
        have k2 : (c : Int) ≤ 90 := by first | omega | exact beq_eq_false_iff_ne.2 (by omega) | (subst_vars; rfl)
        have HB : Hid (isL c = true) := Lib.hid (by unfold isL; simp <;> omega)
        try clear h5
        go_enter Tryz.func28, Tryz.ntmps28
        go_wp2_with fail
        go_ret
        exact ⟨retB (by first | exact HB.out.symm | (rw [HB.out]; exact decide_eq_false (by omega)) | (rw [HB.out]; simp [bne, k0])), rfl⟩
      · by_cases h5 : c = 95
        · have k0 : ¬ ((97 : Int) ≤ (c : Int)) := by first | omega | exact beq_eq_false_iff_ne.2 (by omega) | (subst_vars; rfl)
          have k1 : (65 : Int) ≤ (c : Int) := by first | omega | exact beq_eq_false_iff_ne.2 (by omega) | (subst_vars; rfl)
          have k2 : ¬ ((c : Int) ≤ 90) := by first | omega | exact beq_eq_false_iff_ne.2 (by omega) | (subst_vars; rfl)
          have k3 : ((c : Int) == 95) = true := by first | omega | exact beq_eq_false_iff_ne.2 (by omega) | (subst_vars; rfl)
          have HB : Hid (isL c = true) := Lib.hid (by unfold isL; simp <;> omega)
          try clear h5
          go_enter Tryz.func28, Tryz.ntmps28
          go_wp2_with fail
          go_ret
          exact ⟨retB (by first | exact HB.out.symm | (rw [HB.out]; exact decide_eq_false (by omega)) | (rw [HB.out]; simp [bne, k0])), rfl⟩
        · have k0 : ¬ ((97 : Int) ≤ (c : Int)) := by first | omega | exact beq_eq_false_iff_ne.2 (by omega) | (subst_vars; rfl)
          have k1 : (65 : Int) ≤ (c : Int) := by first | omega | exact beq_eq_false_iff_ne.2 (by omega) | (subst_vars; rfl)
          have k2 : ¬ ((c : Int) ≤ 90) := by first | omega | exact beq_eq_false_iff_ne.2 (by omega) | (subst_vars; rfl)
          have k3 : ((c : Int) == 95) = false := by first | omega | exact beq_eq_false_iff_ne.2 (by omega) | (subst_vars; rfl)
          have HB : Hid (isL c = false) := Lib.hid (by unfold isL; simp <;> omega)
          try clear h5
          go_enter Tryz.func28, Tryz.ntmps28
          go_wp2_with fail
          go_ret
          exact ⟨retB (by first | exact HB.out.symm | (rw [HB.out]; exact decide_eq_false (by omega)) | (rw [HB.out]; simp [bne, k0])), rfl⟩
    · have k0 : ¬ ((97 : Int) ≤ (c : Int)) := by first | omega | exact beq_eq_false_iff_ne.2 (by omega) | (subst_vars; rfl)
      have k1 : ¬ ((65 : Int) ≤ (c : Int)) := by first | omega | exact beq_eq_false_iff_ne.2 (by omega) | (subst_vars; rfl)
      have k2 : ((c : Int) == 95) = false := by first | omega | exact beq_eq_false_iff_ne.2 (by omega) | (subst_vars; rfl)
      have HB : Hid (isL c = false) := Lib.hid (by unfold isL; simp <;> omega)
      try clear h5
      go_enter Tryz.func28, Tryz.ntmps28
      go_wp2_with fail
      go_ret
      exact ⟨retB (by first | exact HB.out.symm | (rw [HB.out]; exact decide_eq_false (by omega)) | (rw [HB.out]; simp [bne, k0])), rfl⟩
set_option maxHeartbeats 400000 in
theorem isD_p (c : Nat) (hc : c ≤ 255) (w : World) : Calls Tryz.prog 41 #[.int .u8 c] w fun e w' => e = .returned (.bool (isD c)) ∧ w = w' := by
  by_cases h1 : 48 ≤ c
  · by_cases h2 : c ≤ 57
    · have k0 : (48 : Int) ≤ (c : Int) := by first | omega | exact beq_eq_false_iff_ne.2 (by omega) | (subst_vars; rfl)
      have k1 : (c : Int) ≤ 57 := by first | omega | exact beq_eq_false_iff_ne.2 (by omega) | (subst_vars; rfl)
      have HB : Hid (isD c = true) := Lib.hid (by unfold isD; simp <;> omega)
      try clear h5
      go_enter Tryz.func41, Tryz.ntmps41
      go_wp2_with fail
      go_ret
      exact ⟨retB (by first | exact HB.out.symm | (rw [HB.out]; exact decide_eq_false (by omega)) | (rw [HB.out]; simp [bne, k0])), rfl⟩
    · have k0 : (48 : Int) ≤ (c : Int) := by first | omega | exact beq_eq_false_iff_ne.2 (by omega) | (subst_vars; rfl)
      have k1 : ¬ ((c : Int) ≤ 57) := by first | omega | exact beq_eq_false_iff_ne.2 (by omega) | (subst_vars; rfl)
      have HB : Hid (isD c = false) := Lib.hid (by unfold isD; simp <;> omega)
      try clear h5
      go_enter Tryz.func41, Tryz.ntmps41
      go_wp2_with fail
      go_ret
      exact ⟨retB (by first | exact HB.out.symm | (rw [HB.out]; exact decide_eq_false (by omega)) | (rw [HB.out]; simp [bne, k0])), rfl⟩
  · have k0 : ¬ ((48 : Int) ≤ (c : Int)) := by first | omega | exact beq_eq_false_iff_ne.2 (by omega) | (subst_vars; rfl)
    have HB : Hid (isD c = false) := Lib.hid (by unfold isD; simp <;> omega)
    try clear h5
    go_enter Tryz.func41, Tryz.ntmps41
    go_wp2_with fail
    go_ret
    exact ⟨retB (by first | exact HB.out.symm | (rw [HB.out]; exact decide_eq_false (by omega)) | (rw [HB.out]; simp [bne, k0])), rfl⟩
set_option maxHeartbeats 400000 in
theorem isB_p (c : Nat) (hc : c ≤ 255) (w : World) : Calls Tryz.prog 61 #[.int .u8 c] w fun e w' => e = .returned (.bool (isB c)) ∧ w = w' := by
  by_cases h1 : c = 32
  · have k0 : ((c : Int) == 32) = true := by first | omega | exact beq_eq_false_iff_ne.2 (by omega) | (subst_vars; rfl)
    have HB : Hid (isB c = true) := Lib.hid (by unfold isB; simp <;> omega)
    try clear h5
    go_enter Tryz.func61, Tryz.ntmps61
    go_wp2_with fail
    go_ret
    exact ⟨retB (by first | exact HB.out.symm | (rw [HB.out]; exact decide_eq_false (by omega)) | (rw [HB.out]; simp [bne, k0])), rfl⟩
  · by_cases h2 : c = 9
    · have k0 : ((c : Int) == 32) = false := by first | omega | exact beq_eq_false_iff_ne.2 (by omega) | (subst_vars; rfl)
      have k1 : ((c : Int) == 9) = true := by first | omega | exact beq_eq_false_iff_ne.2 (by omega) | (subst_vars; rfl)
      have HB : Hid (isB c = true) := Lib.hid (by unfold isB; simp <;> omega)
      try clear h5
      go_enter Tryz.func61, Tryz.ntmps61
      go_wp2_with fail
      go_ret
      exact ⟨retB (by first | exact HB.out.symm | (rw [HB.out]; exact decide_eq_false (by omega)) | (rw [HB.out]; simp [bne, k0])), rfl⟩
    · by_cases h3 : c = 10
      · have k0 : ((c : Int) == 32) = false := by first | omega | exact beq_eq_false_iff_ne.2 (by omega) | (subst_vars; rfl)
        have k1 : ((c : Int) == 9) = false := by first | omega | exact beq_eq_false_iff_ne.2 (by omega) | (subst_vars; rfl)
        have k2 : ((c : Int) == 10) = true := by first | omega | exact beq_eq_false_iff_ne.2 (by omega) | (subst_vars; rfl)
        have HB : Hid (isB c = true) := Lib.hid (by unfold isB; simp <;> omega)
        try clear h5
        go_enter Tryz.func61, Tryz.ntmps61
        go_wp2_with fail
        go_ret
        exact ⟨retB (by first | exact HB.out.symm | (rw [HB.out]; exact decide_eq_false (by omega)) | (rw [HB.out]; simp [bne, k0])), rfl⟩
      · have k0 : ((c : Int) == 32) = false := by first | omega | exact beq_eq_false_iff_ne.2 (by omega) | (subst_vars; rfl)
        have k1 : ((c : Int) == 9) = false := by first | omega | exact beq_eq_false_iff_ne.2 (by omega) | (subst_vars; rfl)
        have k2 : ((c : Int) == 10) = false := by first | omega | exact beq_eq_false_iff_ne.2 (by omega) | (subst_vars; rfl)
        have HB : Hid (isB c = false) := Lib.hid (by unfold isB; simp <;> omega)
        try clear h5
        go_enter Tryz.func61, Tryz.ntmps61
        go_wp2_with fail
        go_ret
        exact ⟨retB (by first | exact HB.out.symm | (rw [HB.out]; exact decide_eq_false (by omega)) | (rw [HB.out]; simp [bne, k0])), rfl⟩
set_option maxHeartbeats 400000 in
theorem noF_p (c : Nat) (hc : c ≤ 255) (w : World) : Calls Tryz.prog 63 #[.int .u8 c] w fun e w' => e = .returned (.bool (noF c)) ∧ w = w' := by
  by_cases h1 : c = 10
  · have k0 : ((c : Int) == 10) = true := by first | omega | exact beq_eq_false_iff_ne.2 (by omega) | (subst_vars; rfl)
    have HB : Hid (noF c = false) := Lib.hid (by unfold noF; simp <;> omega)
    try clear h5
    go_enter Tryz.func63, Tryz.ntmps63
    go_wp2_with fail
    go_ret
    exact ⟨retB (by first | exact HB.out.symm | (rw [HB.out]; exact decide_eq_false (by omega)) | (rw [HB.out]; simp [bne, k0])), rfl⟩
  · have k0 : ((c : Int) == 10) = false := by first | omega | exact beq_eq_false_iff_ne.2 (by omega) | (subst_vars; rfl)
    have HB : Hid (noF c = true) := Lib.hid (by unfold noF; simp <;> omega)
    try clear h5
    go_enter Tryz.func63, Tryz.ntmps63
    go_wp2_with fail
    go_ret
    exact ⟨retB (by first | exact HB.out.symm | (rw [HB.out]; exact decide_eq_false (by omega)) | (rw [HB.out]; simp [bne, k0])), rfl⟩
set_option maxHeartbeats 400000 in
theorem inW_p (c : Nat) (hc : c ≤ 255) (w : World) : Calls Tryz.prog 26 #[.int .u8 c] w fun e w' => e = .returned (.bool (inW c)) ∧ w = w' := by
  have hL := isL_p c hc
  have hD := isD_p c hc
  cases h1 : isL c
  · rw [h1] at hL
    have HB : Hid (inW c = isD c) := Lib.hid (by unfold inW; rw [h1]; rfl)
    clear h1
    go_enter Tryz.func26, Tryz.ntmps26
    go_wp2_with fail
    refine (hL _).mono ?_
    rintro e w1 ⟨rfl, rfl⟩
    go_wp2_with fail
    refine (hD _).mono ?_
    rintro e w1 ⟨rfl, rfl⟩
    go_wp2_with fail
    go_ret
    exact ⟨retB (by first | exact HB.out.symm | (rw [HB.out]; exact decide_eq_false (by omega)) | (rw [HB.out]; simp [bne, k0])), rfl⟩
  · rw [h1] at hL
    have HB : Hid (inW c = true) := Lib.hid (by unfold inW; rw [h1]; rfl)
    clear h1
    go_enter Tryz.func26, Tryz.ntmps26
    go_wp2_with fail
    refine (hL _).mono ?_
    rintro e w1 ⟨rfl, rfl⟩
    go_wp2_with fail
    go_ret
    exact ⟨retB (by first | exact HB.out.symm | (rw [HB.out]; exact decide_eq_false (by omega)) | (rw [HB.out]; simp [bne, k0])), rfl⟩
set_option maxHeartbeats 400000 in
theorem inW_r (c : Nat) (hc : c ≤ 255) (w : World) : Calls Tryz.prog 30 #[.int .u8 c] w fun e w' => e = .returned (.bool (inW c)) ∧ w = w' := by
  have hL := isL_r c hc
  cases h1 : isL c
  · rw [h1] at hL
    by_cases h2 : 48 ≤ c
    · by_cases h3 : c ≤ 57
      · have k0 : (48 : Int) ≤ (c : Int) := by omega
        have k1 : (c : Int) ≤ 57 := by omega
        have HB : Hid (inW c = true) := Lib.hid (by unfold inW isD; simp [h1] <;> omega)
        clear h1
        go_enter Tryz.func30, Tryz.ntmps30
        go_wp2_with fail
        refine (hL _).mono ?_
        rintro e w1 ⟨rfl, rfl⟩
        go_wp2_with fail
        go_ret
        exact ⟨retB (by first | exact HB.out.symm | (rw [HB.out]; exact decide_eq_false (by omega)) | (rw [HB.out]; simp [bne, k0])), rfl⟩
      · have k0 : (48 : Int) ≤ (c : Int) := by omega
        have k1 : ¬ ((c : Int) ≤ 57) := by omega
        have HB : Hid (inW c = false) := Lib.hid (by unfold inW isD; simp [h1] <;> omega)
        clear h1
        go_enter Tryz.func30, Tryz.ntmps30
        go_wp2_with fail
        refine (hL _).mono ?_
        rintro e w1 ⟨rfl, rfl⟩
        go_wp2_with fail
        go_ret
        exact ⟨retB (by first | exact HB.out.symm | (rw [HB.out]; exact decide_eq_false (by omega)) | (rw [HB.out]; simp [bne, k0])), rfl⟩
    · have k0 : ¬ ((48 : Int) ≤ (c : Int)) := by omega
      have HB : Hid (inW c = false) := Lib.hid (by unfold inW isD; simp [h1] <;> omega)
      clear h1
      go_enter Tryz.func30, Tryz.ntmps30
      go_wp2_with fail
      refine (hL _).mono ?_
      rintro e w1 ⟨rfl, rfl⟩
      go_wp2_with fail
      go_ret
      exact ⟨retB (by first | exact HB.out.symm | (rw [HB.out]; exact decide_eq_false (by omega)) | (rw [HB.out]; simp [bne, k0])), rfl⟩
  · rw [h1] at hL
    have HB : Hid (inW c = true) := Lib.hid (by unfold inW; rw [h1]; rfl)
    clear h1
    go_enter Tryz.func30, Tryz.ntmps30
    go_wp2_with fail
    refine (hL _).mono ?_
    rintro e w1 ⟨rfl, rfl⟩
    go_wp2_with fail
    go_ret
    exact ⟨retB (by first | exact HB.out.symm | (rw [HB.out]; exact decide_eq_false (by omega)) | (rw [HB.out]; simp [bne, k0])), rfl⟩
theorem idx_q : ∀ c : Fin 256, decide (Lib.indexByte [46, 91, 93, 34, 92, 96] (UInt8.ofNat c.1) < 0) = !(c.1 == 46 || c.1 == 91 || c.1 == 93 || c.1 == 34 || c.1 == 92 || c.1 == 96) := by decide +kernel
set_option maxHeartbeats 400000 in
theorem inQ_p (c : Nat) (hc : c ≤ 255) (w : World) : Calls Tryz.prog 32 #[.int .u8 c] w fun e w' => e = .returned (.bool (inQ c)) ∧ w = w' := by
  by_cases h1 : 33 ≤ c
  · by_cases h2 : c ≤ 126
    · have k0 : (33 : Int) ≤ (c : Int) := by omega
      have k1 : (c : Int) ≤ 126 := by omega
      have hq := idx_q ⟨c, by omega⟩
      have HB : Hid (inQ c = decide (Lib.indexByte [46, 91, 93, 34, 92, 96] (UInt8.ofNat c) < 0)) := Lib.hid (by rw [hq]; unfold inQ; simp [h1, h2])
      clear hq h1 h2
      go_enter Tryz.func32, Tryz.ntmps32
      go_wp2_with fail
      refine (Tryz.strings_IndexByte _ _ _).mono ?_
      rintro e w1 ⟨rfl, rfl⟩
      go_wp2_with fail
      go_ret
      exact ⟨retB (by first | (rw [HB.out]; rfl) | rw [HB.out]), rfl⟩
    · have k0 : (33 : Int) ≤ (c : Int) := by first | omega | exact beq_eq_false_iff_ne.2 (by omega) | (subst_vars; rfl)
      have k1 : ¬ ((c : Int) ≤ 126) := by first | omega | exact beq_eq_false_iff_ne.2 (by omega) | (subst_vars; rfl)
      have HB : Hid (inQ c = false) := Lib.hid (by unfold inQ; simp <;> omega)
      try clear h5
      go_enter Tryz.func32, Tryz.ntmps32
      go_wp2_with fail
      go_ret
      exact ⟨retB (by first | exact HB.out.symm | (rw [HB.out]; exact decide_eq_false (by omega)) | (rw [HB.out]; simp [bne, k0])), rfl⟩
  · have k0 : ¬ ((33 : Int) ≤ (c : Int)) := by first | omega | exact beq_eq_false_iff_ne.2 (by omega) | (subst_vars; rfl)
    have HB : Hid (inQ c = false) := Lib.hid (by unfold inQ; simp <;> omega)
    try clear h5
    go_enter Tryz.func32, Tryz.ntmps32
    go_wp2_with fail
    go_ret
    exact ⟨retB (by first | exact HB.out.symm | (rw [HB.out]; exact decide_eq_false (by omega)) | (rw [HB.out]; simp [bne, k0])), rfl⟩
end Go.Proofs.YtogmipbdnffegaaGreatDoor
namespace Go.Proofs.YtogmipbdnffegaaGreatDoor
open Go Go.RowKit
set_option linter.unusedVariables false
set_option maxRecDepth 100000 in
set_option maxHeartbeats 800000 in
theorem span_W (s : ByteArray) (hs : s.size ≤ 1000000) (w : World) :
    Calls Tryz.prog 25 #[.string s, .func (.func 26) #[] #[]] w fun e w' => e = .returned (.int .i64 (span inW s : Nat)) ∧ w = w' := by
  have hc := inW_p
  have HC := Lib.hid hc
  clear hc
  go_enter Tryz.func25, Tryz.ntmps25
  go_wp2_with fail
  go_loop [5] (fun u => ∃ n : Nat, n ≤ s.size ∧ u = .int .i64 n ∧ Hid (∀ q (h : q < s.size), q < n → inW s[q].toNat = true)) (fun u => s.size - (intOf u).toNat)
  case atStart => exact ⟨0, Nat.zero_le _, rfl, Lib.hid (fun q h hq => absurd hq (Nat.not_lt_zero q))⟩
  case round =>
    obtain ⟨n, hn, rfl, hd⟩ := hrel
    have hn0 : (0 : Int) ≤ (n : Int) := by omega
    by_cases hlt : n < s.size
    · have hb : s[n].toNat ≤ 255 := by have := s[n].toNat_lt; omega
      have hk := HC.out s[n].toNat hb w
      cases hv : inW s[n].toNat
      · have HS : Hid (span inW s = n) := Lib.hid (span_is hn hd.out (fun _ => hv))
        rw [hv] at hk
        have HK := Lib.hid hk
        clear hv hk
        go_wp2_with fail
        refine HK.out.mono ?_
        rintro e w1 ⟨rfl, rfl⟩
        go_wp2_with fail
        go_ret
        exact ⟨ret_int (by rw [HS.out]), rfl⟩
      · have HD : Hid (∀ q (h : q < s.size), q < n + 1 → inW s[q].toNat = true) := Lib.hid (fun q h hq => by
          by_cases hqn : q < n
          · exact hd.out q h hqn
          · obtain rfl : q = n := by omega
            exact hv)
        rw [hv] at hk
        have HK := Lib.hid hk
        clear hv hk
        go_wp2_with fail
        refine HK.out.mono ?_
        rintro e w1 ⟨rfl, rfl⟩
        go_wp2_with fail
        go_round
        case rel => exact ⟨n + 1, by omega, by go_num, HD⟩
        case measure => simp [intOf] <;> omega
    · obtain rfl : n = s.size := by omega
      have HS : Hid (span inW s = s.size) := Lib.hid (span_is hn hd.out (fun h => absurd h (Nat.lt_irrefl _)))
      go_wp2_with fail
      go_ret
      exact ⟨ret_int (by rw [HS.out]), rfl⟩
set_option maxRecDepth 100000 in
set_option maxHeartbeats 800000 in
theorem span_D (s : ByteArray) (hs : s.size ≤ 1000000) (w : World) :
    Calls Tryz.prog 25 #[.string s, .func (.func 41) #[] #[]] w fun e w' => e = .returned (.int .i64 (span isD s : Nat)) ∧ w = w' := by
  have hc := isD_p
  have HC := Lib.hid hc
  clear hc
  go_enter Tryz.func25, Tryz.ntmps25
  go_wp2_with fail
  go_loop [5] (fun u => ∃ n : Nat, n ≤ s.size ∧ u = .int .i64 n ∧ Hid (∀ q (h : q < s.size), q < n → isD s[q].toNat = true)) (fun u => s.size - (intOf u).toNat)
  case atStart => exact ⟨0, Nat.zero_le _, rfl, Lib.hid (fun q h hq => absurd hq (Nat.not_lt_zero q))⟩
  case round =>
    obtain ⟨n, hn, rfl, hd⟩ := hrel
    have hn0 : (0 : Int) ≤ (n : Int) := by omega
    by_cases hlt : n < s.size
    · have hb : s[n].toNat ≤ 255 := by have := s[n].toNat_lt; omega
      have hk := HC.out s[n].toNat hb w
      cases hv : isD s[n].toNat
      · have HS : Hid (span isD s = n) := Lib.hid (span_is hn hd.out (fun _ => hv))
        rw [hv] at hk
        have HK := Lib.hid hk
        clear hv hk
        go_wp2_with fail
        refine HK.out.mono ?_
        rintro e w1 ⟨rfl, rfl⟩
        go_wp2_with fail
        go_ret
        exact ⟨ret_int (by rw [HS.out]), rfl⟩
      · have HD : Hid (∀ q (h : q < s.size), q < n + 1 → isD s[q].toNat = true) := Lib.hid (fun q h hq => by
          by_cases hqn : q < n
          · exact hd.out q h hqn
          · obtain rfl : q = n := by omega
            exact hv)
        rw [hv] at hk
        have HK := Lib.hid hk
        clear hv hk
        go_wp2_with fail
        refine HK.out.mono ?_
        rintro e w1 ⟨rfl, rfl⟩
        go_wp2_with fail
        go_round
        case rel => exact ⟨n + 1, by omega, by go_num, HD⟩
        case measure => simp [intOf] <;> omega
    · obtain rfl : n = s.size := by omega
      have HS : Hid (span isD s = s.size) := Lib.hid (span_is hn hd.out (fun h => absurd h (Nat.lt_irrefl _)))
      go_wp2_with fail
      go_ret
      exact ⟨ret_int (by rw [HS.out]), rfl⟩
set_option maxRecDepth 100000 in
set_option maxHeartbeats 800000 in
theorem span_Q (s : ByteArray) (hs : s.size ≤ 1000000) (w : World) :
    Calls Tryz.prog 25 #[.string s, .func (.func 32) #[] #[]] w fun e w' => e = .returned (.int .i64 (span inQ s : Nat)) ∧ w = w' := by
  have hc := inQ_p
  have HC := Lib.hid hc
  clear hc
  go_enter Tryz.func25, Tryz.ntmps25
  go_wp2_with fail
  go_loop [5] (fun u => ∃ n : Nat, n ≤ s.size ∧ u = .int .i64 n ∧ Hid (∀ q (h : q < s.size), q < n → inQ s[q].toNat = true)) (fun u => s.size - (intOf u).toNat)
  case atStart => exact ⟨0, Nat.zero_le _, rfl, Lib.hid (fun q h hq => absurd hq (Nat.not_lt_zero q))⟩
  case round =>
    obtain ⟨n, hn, rfl, hd⟩ := hrel
    have hn0 : (0 : Int) ≤ (n : Int) := by omega
    by_cases hlt : n < s.size
    · have hb : s[n].toNat ≤ 255 := by have := s[n].toNat_lt; omega
      have hk := HC.out s[n].toNat hb w
      cases hv : inQ s[n].toNat
      · have HS : Hid (span inQ s = n) := Lib.hid (span_is hn hd.out (fun _ => hv))
        rw [hv] at hk
        have HK := Lib.hid hk
        clear hv hk
        go_wp2_with fail
        refine HK.out.mono ?_
        rintro e w1 ⟨rfl, rfl⟩
        go_wp2_with fail
        go_ret
        exact ⟨ret_int (by rw [HS.out]), rfl⟩
      · have HD : Hid (∀ q (h : q < s.size), q < n + 1 → inQ s[q].toNat = true) := Lib.hid (fun q h hq => by
          by_cases hqn : q < n
          · exact hd.out q h hqn
          · obtain rfl : q = n := by omega
            exact hv)
        rw [hv] at hk
        have HK := Lib.hid hk
        clear hv hk
        go_wp2_with fail
        refine HK.out.mono ?_
        rintro e w1 ⟨rfl, rfl⟩
        go_wp2_with fail
        go_round
        case rel => exact ⟨n + 1, by omega, by go_num, HD⟩
        case measure => simp [intOf] <;> omega
    · obtain rfl : n = s.size := by omega
      have HS : Hid (span inQ s = s.size) := Lib.hid (span_is hn hd.out (fun h => absurd h (Nat.lt_irrefl _)))
      go_wp2_with fail
      go_ret
      exact ⟨ret_int (by rw [HS.out]), rfl⟩
set_option maxRecDepth 100000 in
set_option maxHeartbeats 800000 in
theorem span_F (s : ByteArray) (hs : s.size ≤ 1000000) (w : World) :
    Calls Tryz.prog 25 #[.string s, .func (.func 63) #[] #[]] w fun e w' => e = .returned (.int .i64 (span noF s : Nat)) ∧ w = w' := by
  have hc := noF_p
  have HC := Lib.hid hc
  clear hc
  go_enter Tryz.func25, Tryz.ntmps25
  go_wp2_with fail
  go_loop [5] (fun u => ∃ n : Nat, n ≤ s.size ∧ u = .int .i64 n ∧ Hid (∀ q (h : q < s.size), q < n → noF s[q].toNat = true)) (fun u => s.size - (intOf u).toNat)
  case atStart => exact ⟨0, Nat.zero_le _, rfl, Lib.hid (fun q h hq => absurd hq (Nat.not_lt_zero q))⟩
  case round =>
    obtain ⟨n, hn, rfl, hd⟩ := hrel
    have hn0 : (0 : Int) ≤ (n : Int) := by omega
    by_cases hlt : n < s.size
    · have hb : s[n].toNat ≤ 255 := by have := s[n].toNat_lt; omega
      have hk := HC.out s[n].toNat hb w
      cases hv : noF s[n].toNat
      · have HS : Hid (span noF s = n) := Lib.hid (span_is hn hd.out (fun _ => hv))
        rw [hv] at hk
        have HK := Lib.hid hk
        clear hv hk
        go_wp2_with fail
        refine HK.out.mono ?_
        rintro e w1 ⟨rfl, rfl⟩
        go_wp2_with fail
        go_ret
        exact ⟨ret_int (by rw [HS.out]), rfl⟩
      · have HD : Hid (∀ q (h : q < s.size), q < n + 1 → noF s[q].toNat = true) := Lib.hid (fun q h hq => by
          by_cases hqn : q < n
          · exact hd.out q h hqn
          · obtain rfl : q = n := by omega
            exact hv)
        rw [hv] at hk
        have HK := Lib.hid hk
        clear hv hk
        go_wp2_with fail
        refine HK.out.mono ?_
        rintro e w1 ⟨rfl, rfl⟩
        go_wp2_with fail
        go_round
        case rel => exact ⟨n + 1, by omega, by go_num, HD⟩
        case measure => simp [intOf] <;> omega
    · obtain rfl : n = s.size := by omega
      have HS : Hid (span noF s = s.size) := Lib.hid (span_is hn hd.out (fun h => absurd h (Nat.lt_irrefl _)))
      go_wp2_with fail
      go_ret
      exact ⟨ret_int (by rw [HS.out]), rfl⟩
end Go.Proofs.YtogmipbdnffegaaGreatDoor
