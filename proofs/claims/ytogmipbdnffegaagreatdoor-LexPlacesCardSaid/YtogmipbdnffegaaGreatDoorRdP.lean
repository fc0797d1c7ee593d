/- Read by cases, whatever takeApart and the readers answer. -/
import Derived.Test.YtogmipbdnffegaaGreatDoorMgDec
namespace Go.Proofs.YtogmipbdnffegaaGreatDoor
open Go Go.RowKit
set_option linter.unusedVariables false
set_option maxRecDepth 100000 in
set_option maxHeartbeats 4000000 in
theorem read_no (s d : ByteArray) (n b : Nat) (w : World)
    (hT : ∀ w1, Below w.heap.size w w1 → Calls Tryz.prog 91 #[.string s] w1 fun e w2 => e = .returned (.tuple #[.agg #[.int .i64 n, .int .u8 b, .string d], .bool false]) ∧ Below w1.heap.size w1 w2) :
    Calls Tryz.prog 79 #[.string s] w fun e w' => e = .returned (bad 10) ∧ Below w.heap.size w w' := by
  have hTT := Lib.hid hT
  clear hT
  go_enter Tryz.func79, Tryz.ntmps79
  go_wp2_with fail
  refine (hTT.out _ ((Below.refl _ _).alloc (Nat.le_refl _) _)).mono ?_
  rintro e w1 ⟨rfl, hb1⟩
  obtain ⟨hc1, hf1⟩ := bcell hb1
  have z1_0 : w.heap.size < w1.heap.size := bsize hb1 (by first | omega | (simp <;> omega))
  have zz : w.heap.size < w1.heap.size + 1 := by omega
  go_wp2_with fail
  exact bodyPost_ret (v := .tuple #[.agg #[.int .i64 0, .int .u64 0, .int .u64 0], .int .i64 10]) (by simp [results, Tryz.results79, go_sem, hc1, z1_0, zz]) rfl ⟨rfl, by (repeat (first | exact Below.refl _ _ | exact Nat.le_refl _ | refine below_drewN ?_ _ | refine Below.drew ?_ | refine Below.alloc ?_ ?_ _ | refine Below.setCell ?_ ?_ _ | refine below_step (by assumption) ?_ ?_)) <;> (first | omega | (simp <;> omega))⟩
set_option maxRecDepth 100000 in
set_option maxHeartbeats 4000000 in
theorem read_wide (s d : ByteArray) (n b : Nat) (w : World)
    (hT : ∀ w1, Below w.heap.size w w1 → Calls Tryz.prog 91 #[.string s] w1 fun e w2 => e = .returned (.tuple #[.agg #[.int .i64 n, .int .u8 b, .string d], .bool true]) ∧ Below w1.heap.size w1 w2) (hn : 64 < n) :
    Calls Tryz.prog 79 #[.string s] w fun e w' => e = .returned (bad 2) ∧ Below w.heap.size w w' := by
  have hTT := Lib.hid hT
  clear hT
  go_enter Tryz.func79, Tryz.ntmps79
  go_wp2_with fail
  refine (hTT.out _ ((Below.refl _ _).alloc (Nat.le_refl _) _)).mono ?_
  rintro e w1 ⟨rfl, hb1⟩
  obtain ⟨hc1, hf1⟩ := bcell hb1
  have z1_0 : w.heap.size < w1.heap.size := bsize hb1 (by first | omega | (simp <;> omega))
  have zz : w.heap.size < w1.heap.size + 1 := by omega
  have hn2 : (64 : Int) < (n : Int) := by omega
  go_wp2_with fail
  exact bodyPost_ret (v := .tuple #[.agg #[.int .i64 0, .int .u64 0, .int .u64 0], .int .i64 2]) (by simp [results, Tryz.results79, go_sem, hc1, z1_0, zz]) rfl ⟨rfl, by (repeat (first | exact Below.refl _ _ | exact Nat.le_refl _ | refine below_drewN ?_ _ | refine Below.drew ?_ | refine Below.alloc ?_ ?_ _ | refine Below.setCell ?_ ?_ _ | refine below_step (by assumption) ?_ ?_)) <;> (first | omega | (simp <;> omega))⟩
set_option maxRecDepth 100000 in
set_option maxHeartbeats 4000000 in
theorem read_dec (s d : ByteArray) (n b : Nat) (w : World)
    (hT : ∀ w1, Below w.heap.size w w1 → Calls Tryz.prog 91 #[.string s] w1 fun e w2 => e = .returned (.tuple #[.agg #[.int .i64 n, .int .u8 b, .string d], .bool true]) ∧ Below w1.heap.size w1 w2) (hn : n ≤ 64) (hb : b = 100) (x y z er : Int)
    (hD : ∀ w1, Below w.heap.size w w1 → Calls Tryz.prog 92 #[.int .i64 n, .string d] w1 fun e1 w2 => e1 = .returned (.tuple #[.agg #[.int .i64 x, .int .u64 y, .int .u64 z], .int .i64 er]) ∧ Below w1.heap.size w1 w2) :
    Calls Tryz.prog 79 #[.string s] w fun e w' => e = .returned (.tuple #[.agg #[.int .i64 x, .int .u64 y, .int .u64 z], .int .i64 er]) ∧ Below w.heap.size w w' := by
  have hTT := Lib.hid hT
  clear hT
  go_enter Tryz.func79, Tryz.ntmps79
  go_wp2_with fail
  refine (hTT.out _ ((Below.refl _ _).alloc (Nat.le_refl _) _)).mono ?_
  rintro e w1 ⟨rfl, hb1⟩
  obtain ⟨hc1, hf1⟩ := bcell hb1
  have z1_0 : w.heap.size < w1.heap.size := bsize hb1 (by first | omega | (simp <;> omega))
  have zz : w.heap.size < w1.heap.size + 1 := by omega
  have hDD := Lib.hid hD
  clear hD
  subst hb
  have B1 : Below w.heap.size w w1 := ((Below.refl _ _).alloc (Nat.le_refl _) _).trans (hb1.mono (by simp))
  go_wp2_with fail
  refine (hDD.out _ (by (repeat (first | exact Below.refl _ _ | exact Nat.le_refl _ | refine below_drewN ?_ _ | refine Below.drew ?_ | refine Below.alloc ?_ ?_ _ | refine Below.setCell ?_ ?_ _ | refine below_step (by assumption) ?_ ?_)) <;> (first | omega | (simp <;> omega)))).mono ?_
  rintro e w2 ⟨rfl, hb2⟩
  obtain ⟨hc2, hf2⟩ := bcell hb2
  have z2_0 : w.heap.size < w2.heap.size := bsize hb2 (by first | omega | (simp <;> omega))
  go_wp2_with fail
  exact bodyPost_ret (v := .tuple #[.agg #[.int .i64 x, .int .u64 y, .int .u64 z], .int .i64 er]) (by simp [results, Tryz.results79, go_sem, hc1, z1_0, zz, hc2, z2_0]) rfl ⟨rfl, by (repeat (first | exact Below.refl _ _ | exact Nat.le_refl _ | refine below_drewN ?_ _ | refine Below.drew ?_ | refine Below.alloc ?_ ?_ _ | refine Below.setCell ?_ ?_ _ | refine below_step (by assumption) ?_ ?_)) <;> (first | omega | (simp <;> omega))⟩
set_option maxRecDepth 100000 in
set_option maxHeartbeats 4000000 in
theorem read_dig (s d : ByteArray) (n b : Nat) (w : World)
    (hT : ∀ w1, Below w.heap.size w w1 → Calls Tryz.prog 91 #[.string s] w1 fun e w2 => e = .returned (.tuple #[.agg #[.int .i64 n, .int .u8 b, .string d], .bool true]) ∧ Below w1.heap.size w1 w2) (hn : n ≤ 64) (hb : ((b : Int) == 100) = false) (hb2 : b ≤ 255) (size : Nat) (hsz : Hid (dw b = size)) (x y z er : Int)
    (hD : ∀ w1, Below w.heap.size w w1 → Calls Tryz.prog 93 #[.int .i64 n, .int .i64 size, .string d] w1 fun e1 w2 => e1 = .returned (.tuple #[.agg #[.int .i64 x, .int .u64 y, .int .u64 z], .int .i64 er]) ∧ Below w1.heap.size w1 w2) :
    Calls Tryz.prog 79 #[.string s] w fun e w' => e = .returned (.tuple #[.agg #[.int .i64 x, .int .u64 y, .int .u64 z], .int .i64 er]) ∧ Below w.heap.size w w' := by
  have hTT := Lib.hid hT
  clear hT
  go_enter Tryz.func79, Tryz.ntmps79
  go_wp2_with fail
  refine (hTT.out _ ((Below.refl _ _).alloc (Nat.le_refl _) _)).mono ?_
  rintro e w1 ⟨rfl, hb1⟩
  obtain ⟨hc1, hf1⟩ := bcell hb1
  have z1_0 : w.heap.size < w1.heap.size := bsize hb1 (by first | omega | (simp <;> omega))
  have zz : w.heap.size < w1.heap.size + 1 := by omega
  have hDD := Lib.hid hD
  clear hD
  have B1 : Below w.heap.size w w1 := ((Below.refl _ _).alloc (Nat.le_refl _) _).trans (hb1.mono (by simp))
  go_wp2_with fail
  go_region_with (first | (go_at_call 94; refine (digitWidth_any _ hb2 _).mono ?_; rintro e w' ⟨rfl, rfl⟩; rw [hsz.out]) | (go_at_call 93; refine (hDD.out _ (by (repeat (first | exact Below.refl _ _ | exact Nat.le_refl _ | refine below_drewN ?_ _ | refine Below.drew ?_ | refine Below.alloc ?_ ?_ _ | refine Below.setCell ?_ ?_ _ | refine below_step (by assumption) ?_ ?_)) <;> (first | omega | (simp <;> omega)))).mono ?_; rintro e w2 ⟨rfl, hb2⟩; obtain ⟨hc2, hf2⟩ := bcell hb2; have z2_0 : w.heap.size < w2.heap.size := bsize hb2 (by first | omega | (simp <;> omega))))
  all_goals
    go_wp2_with fail
    exact bodyPost_ret (v := .tuple #[.agg #[.int .i64 x, .int .u64 y, .int .u64 z], .int .i64 er]) (by simp [results, Tryz.results79, go_sem, hc1, z1_0, zz, hc2, z2_0]) rfl ⟨rfl, by (repeat (first | exact Below.refl _ _ | exact Nat.le_refl _ | refine below_drewN ?_ _ | refine Below.drew ?_ | refine Below.alloc ?_ ?_ _ | refine Below.setCell ?_ ?_ _ | refine below_step (by assumption) ?_ ?_)) <;> (first | omega | (simp <;> omega))⟩
end Go.Proofs.YtogmipbdnffegaaGreatDoor
