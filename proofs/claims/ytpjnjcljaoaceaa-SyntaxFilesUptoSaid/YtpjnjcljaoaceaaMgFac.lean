/- The fields of the example's nodes.
   The fields of the example's nodes. -/
import Derived.Test.YtpjnjcljaoaceaaSyFact
namespace Go.Proofs.Ytpjnjcljaoaceaa
open Go Go.RowKit Go.Sort
set_option linter.unusedVariables false
set_option maxRecDepth 100000 in
set_option maxHeartbeats 4000000 in
theorem fields_q (w : World) : Calls Try.prog 23 #[nqV ⟨#[113]⟩, .string ⟨#[78]⟩] w fun e w' => e = .returned (.int .i64 0) ∧ Below w.heap.size w w' := by
  have e0 : ¬ (ByteArray.mk #[113]).toList = (ByteArray.mk #[]).toList := by rw [ByteArray.toList_eq, ByteArray.toList_eq]; decide
  obtain ⟨W1, hW1⟩ : ∃ W, W = (w.alloc (.cells #[.int .i64 79, .int .i64 0, .int .i64 0, .string ⟨#[113]⟩, .string ⟨#[]⟩, .int .i64 0, .int .u64 0, .int .u64 0, .bool false, .slice none 0 0] 34)).alloc (.cells #[.string ⟨#[78]⟩] 9) := ⟨_, rfl⟩
  have b0 : Below w.heap.size w W1 := by rw [hW1]; exact ((Below.refl _ _).alloc (Nat.le_refl _) _).alloc (by simp <;> omega) _
  have x3 : W1.cell? ⟨w.heap.size, 3, none⟩ = some (.string ⟨#[113]⟩) := by rw [hW1]; go_simp
  have x4 : W1.cell? ⟨w.heap.size, 4, none⟩ = some (.string ⟨#[]⟩) := by rw [hW1]; go_simp
  have x5 : W1.cell? ⟨w.heap.size, 5, none⟩ = some (.int .i64 0) := by rw [hW1]; go_simp
  have x6 : W1.cell? ⟨w.heap.size, 6, none⟩ = some (.int .u64 0) := by rw [hW1]; go_simp
  have x7 : W1.cell? ⟨w.heap.size, 7, none⟩ = some (.int .u64 0) := by rw [hW1]; go_simp
  have x8 : W1.cell? ⟨w.heap.size, 8, none⟩ = some (.bool false) := by rw [hW1]; go_simp
  have xb : W1.cell? ⟨w.heap.size + 1, 0, none⟩ = some (.string ⟨#[78]⟩) := by rw [hW1]; go_simp
  have hN := has_N 78 true 0 (by decide) (by decide) (w.heap.size + 1)
  have hV := has_N 86 false (-1) (by decide) (by decide) (w.heap.size + 1)
  have HNN := Lib.hid hN
  have HVV := Lib.hid hV
  clear hN hV
  unfold nqV
  go_enter Try.func23, Try.ntmps23
  go_upto_region 2 with fail
  rw [← hW1]
  clear hW1
  have cN : ∀ dd os, Calls Try.prog 38 (#[.int .u8 78] ++ #[.pointer (some ⟨w.heap.size + 1, 0, none⟩)]) (grow (redrawn W1 dd) os) fun e w'' => e = .returned (.bool true) ∧ ∃ p : Regrown, w'' = grow (redrawn W1 p.d) p.os := fun dd os => Calls.regrown_of ((HNN.out _ (cell_regrown xb dd os)).mono fun _ _ ⟨a, b⟩ => ⟨a, b ▸ Below.refl _ _⟩)
  have y3 := cell_regrown x3
  refine wp_region_quiet_below (by kernel_rfl) (by kernel_rfl) ?_
  repeat (quiet_step (first | (exact cN _ _)))
  refine wpQuiet_nil ?_
  intro _ hw'
  obtain ⟨⟨dq, osq⟩, hw''⟩ := hw'
  subst hw''
  have bq := below_regrown W1 dq osq
  have z3 := y3 dq osq
  have z4 := cell_regrown x4 dq osq
  have z5 := cell_regrown x5 dq osq
  have z6 := cell_regrown x6 dq osq
  have z7 := cell_regrown x7 dq osq
  have z8 := cell_regrown x8 dq osq
  have zb := cell_regrown xb dq osq
  clear y3 x3 x4 x5 x6 x7 x8 xb cN
  generalize grow (redrawn W1 dq) osq = W2 at *
  go_wp2_with (first | (refine (HNN.out _ zb).mono ?_; rintro e w3 ⟨rfl, rfl⟩) | (refine (HVV.out _ zb).mono ?_; rintro e w3 ⟨rfl, rfl⟩) | (refine (quoted_q _).mono ?_; rintro e w3 ⟨rfl, rfl⟩) | (refine (isPrintable0 _).mono ?_; rintro e w3 ⟨rfl, hb3⟩))
  go_ret
  exact ⟨rfl, (b0.trans (bq.mono b0.size)).trans (hb3.mono (Nat.le_trans b0.size bq.size))⟩
end Go.Proofs.Ytpjnjcljaoaceaa
namespace Go.Proofs.Ytpjnjcljaoaceaa
open Go Go.RowKit Go.Sort
set_option linter.unusedVariables false
set_option maxRecDepth 100000 in
set_option maxHeartbeats 4000000 in
theorem fields_e (w : World) : Calls Try.prog 23 #[nqV ⟨#[]⟩, .string ⟨#[78]⟩] w fun e w' => e = .returned (.int .i64 4) ∧ Below w.heap.size w w' := by
  have e0 : ¬ (ByteArray.mk #[113]).toList = (ByteArray.mk #[]).toList := by rw [ByteArray.toList_eq, ByteArray.toList_eq]; decide
  obtain ⟨W1, hW1⟩ : ∃ W, W = (w.alloc (.cells #[.int .i64 79, .int .i64 0, .int .i64 0, .string ⟨#[]⟩, .string ⟨#[]⟩, .int .i64 0, .int .u64 0, .int .u64 0, .bool false, .slice none 0 0] 34)).alloc (.cells #[.string ⟨#[78]⟩] 9) := ⟨_, rfl⟩
  have b0 : Below w.heap.size w W1 := by rw [hW1]; exact ((Below.refl _ _).alloc (Nat.le_refl _) _).alloc (by simp <;> omega) _
  have x3 : W1.cell? ⟨w.heap.size, 3, none⟩ = some (.string ⟨#[]⟩) := by rw [hW1]; go_simp
  have x4 : W1.cell? ⟨w.heap.size, 4, none⟩ = some (.string ⟨#[]⟩) := by rw [hW1]; go_simp
  have x5 : W1.cell? ⟨w.heap.size, 5, none⟩ = some (.int .i64 0) := by rw [hW1]; go_simp
  have x6 : W1.cell? ⟨w.heap.size, 6, none⟩ = some (.int .u64 0) := by rw [hW1]; go_simp
  have x7 : W1.cell? ⟨w.heap.size, 7, none⟩ = some (.int .u64 0) := by rw [hW1]; go_simp
  have x8 : W1.cell? ⟨w.heap.size, 8, none⟩ = some (.bool false) := by rw [hW1]; go_simp
  have xb : W1.cell? ⟨w.heap.size + 1, 0, none⟩ = some (.string ⟨#[78]⟩) := by rw [hW1]; go_simp
  have hN := has_N 78 true 0 (by decide) (by decide) (w.heap.size + 1)
  have hV := has_N 86 false (-1) (by decide) (by decide) (w.heap.size + 1)
  have HNN := Lib.hid hN
  have HVV := Lib.hid hV
  clear hN hV
  unfold nqV
  go_enter Try.func23, Try.ntmps23
  go_upto_region 2 with fail
  rw [← hW1]
  clear hW1
  have cN : ∀ dd os, Calls Try.prog 38 (#[.int .u8 78] ++ #[.pointer (some ⟨w.heap.size + 1, 0, none⟩)]) (grow (redrawn W1 dd) os) fun e w'' => e = .returned (.bool true) ∧ ∃ p : Regrown, w'' = grow (redrawn W1 p.d) p.os := fun dd os => Calls.regrown_of ((HNN.out _ (cell_regrown xb dd os)).mono fun _ _ ⟨a, b⟩ => ⟨a, b ▸ Below.refl _ _⟩)
  have y3 := cell_regrown x3
  refine wp_region_quiet_below (by kernel_rfl) (by kernel_rfl) ?_
  repeat (quiet_step (first | (exact cN _ _)))
  refine wpQuiet_nil ?_
  intro _ hw'
  obtain ⟨⟨dq, osq⟩, hw''⟩ := hw'
  subst hw''
  have bq := below_regrown W1 dq osq
  have z3 := y3 dq osq
  have z4 := cell_regrown x4 dq osq
  have z5 := cell_regrown x5 dq osq
  have z6 := cell_regrown x6 dq osq
  have z7 := cell_regrown x7 dq osq
  have z8 := cell_regrown x8 dq osq
  have zb := cell_regrown xb dq osq
  clear y3 x3 x4 x5 x6 x7 x8 xb cN
  generalize grow (redrawn W1 dq) osq = W2 at *
  go_wp2_with fail
  go_ret
  exact ⟨rfl, b0.trans (bq.mono b0.size)⟩
end Go.Proofs.Ytpjnjcljaoaceaa
