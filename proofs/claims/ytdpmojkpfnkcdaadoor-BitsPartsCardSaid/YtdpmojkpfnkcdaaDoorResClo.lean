/- The closures of the reference's Resolved and Chosen. -/
import Derived.Test.YtdpmojkpfnkcdaaDoorResMath
namespace Go.Proofs.YtdpmojkpfnkcdaaDoor
open Go Go.RowKit
set_option linter.unusedVariables false
set_option maxRecDepth 100000 in
set_option maxHeartbeats 1600000 in
theorem res1_ok (x y : UInt8) (w : World) : Calls Tryd.prog 50 #[.int .u8 (x.toNat : Int), .int .u8 (y.toNat : Int)] w fun e w' => e = .returned (.int .u8 ((resB x y).toNat : Int)) ∧ w = w' := by
  have HR : Hid (resB x y = if x = 122 ∨ x = y then y else if y = 122 then x else 120) := rfl
  generalize resB x y = r at HR ⊢
  by_cases h1 : x = 122
  · have t1 : ((x.toNat : Int) == 122) = true := by rw [h1]; rfl
    replace HR : Hid (r = y) := HR.out.trans (if_pos (Or.inl h1))
    clear h1
    go_enter Tryd.func50, Tryd.ntmps50
    go_wp2_with fail
    go_ret
    exact ⟨ret_u8 (by rw [HR.out]), rfl⟩
  have t1 : ((x.toNat : Int) == 122) = false := beq_eq_false_iff_ne.2 (fun e => h1 (UInt8.toNat_inj.1 (by simpa using Int.ofNat_inj.1 e)))
  by_cases h2 : x = y
  · have t2 : ((x.toNat : Int) == (y.toNat : Int)) = true := by rw [h2]; simp
    replace HR : Hid (r = y) := HR.out.trans (if_pos (Or.inr h2))
    clear h1 h2
    go_enter Tryd.func50, Tryd.ntmps50
    go_wp2_with fail
    go_ret
    exact ⟨ret_u8 (by rw [HR.out]), rfl⟩
  have t2 : ((x.toNat : Int) == (y.toNat : Int)) = false := beq_eq_false_iff_ne.2 (fun e => h2 (UInt8.toNat_inj.1 (Int.ofNat_inj.1 e)))
  by_cases h3 : y = 122
  · have t3 : ((y.toNat : Int) == 122) = true := by rw [h3]; rfl
    replace HR : Hid (r = x) := HR.out.trans ((if_neg (fun e => e.elim h1 h2)).trans (if_pos h3))
    clear h1 h2 h3
    go_enter Tryd.func50, Tryd.ntmps50
    go_wp2_with fail
    go_ret
    exact ⟨ret_u8 (by rw [HR.out]), rfl⟩
  have t3 : ((y.toNat : Int) == 122) = false := beq_eq_false_iff_ne.2 (fun e => h3 (UInt8.toNat_inj.1 (by simpa using Int.ofNat_inj.1 e)))
  replace HR : Hid (r = 120) := HR.out.trans ((if_neg (fun e => e.elim h1 h2)).trans (if_neg h3))
  clear h1 h2 h3
  go_enter Tryd.func50, Tryd.ntmps50
  go_wp2_with fail
  go_ret
  exact ⟨ret_u8 (by rw [HR.out]; rfl), rfl⟩
set_option maxRecDepth 100000 in
set_option maxHeartbeats 1600000 in
theorem ch1_ok (x y : UInt8) (w : World) : Calls Tryd.prog 51 #[.int .u8 (x.toNat : Int), .int .u8 (y.toNat : Int)] w fun e w' => e = .returned (.int .u8 ((chB x y).toNat : Int)) ∧ w = w' := by
  have HR : Hid (chB x y = if x = y ∧ (x = 48 ∨ x = 49) then x else 120) := rfl
  generalize chB x y = r at HR ⊢
  by_cases h2 : x = y
  · have t2 : ((x.toNat : Int) == (y.toNat : Int)) = true := by rw [h2]; simp
    by_cases h0 : x = 48
    · have t0 : ((x.toNat : Int) == 48) = true := by rw [h0]; rfl
      replace HR : Hid (r = x) := HR.out.trans (if_pos ⟨h2, Or.inl h0⟩)
      clear h2 h0
      go_enter Tryd.func51, Tryd.ntmps51
      go_wp2_with fail
      go_ret
      exact ⟨ret_u8 (by rw [HR.out]), rfl⟩
    have t0 : ((x.toNat : Int) == 48) = false := beq_eq_false_iff_ne.2 (fun e => h0 (UInt8.toNat_inj.1 (by simpa using Int.ofNat_inj.1 e)))
    by_cases h1 : x = 49
    · have t1 : ((x.toNat : Int) == 49) = true := by rw [h1]; rfl
      replace HR : Hid (r = x) := HR.out.trans (if_pos ⟨h2, Or.inr h1⟩)
      clear h2 h0 h1
      go_enter Tryd.func51, Tryd.ntmps51
      go_wp2_with fail
      go_ret
      exact ⟨ret_u8 (by rw [HR.out]), rfl⟩
    have t1 : ((x.toNat : Int) == 49) = false := beq_eq_false_iff_ne.2 (fun e => h1 (UInt8.toNat_inj.1 (by simpa using Int.ofNat_inj.1 e)))
    replace HR : Hid (r = 120) := HR.out.trans (if_neg (fun e => e.2.elim h0 h1))
    clear h2 h0 h1
    go_enter Tryd.func51, Tryd.ntmps51
    go_wp2_with fail
    go_ret
    exact ⟨ret_u8 (by rw [HR.out]; rfl), rfl⟩
  have t2 : ((x.toNat : Int) == (y.toNat : Int)) = false := beq_eq_false_iff_ne.2 (fun e => h2 (UInt8.toNat_inj.1 (Int.ofNat_inj.1 e)))
  replace HR : Hid (r = 120) := HR.out.trans (if_neg (fun e => h2 e.1))
  clear h2
  go_enter Tryd.func51, Tryd.ntmps51
  go_wp2_with fail
  go_ret
  exact ⟨ret_u8 (by rw [HR.out]; rfl), rfl⟩
end Go.Proofs.YtdpmojkpfnkcdaaDoor
