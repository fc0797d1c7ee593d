/- The program's forms, the kinds from 56 to 77. -/
import Derived.Test.YtpjnjcljaoaceaaSyForm
import Derived.RegionTactic
namespace Go.Proofs.Ytpjnjcljaoaceaa
open Go Go.RowKit
set_option linter.unusedVariables false
set_option maxRecDepth 100000 in
theorem frm56 (w : World) : Calls Try.prog 33 #[.int .i64 56] w fun e w' => e = .returned (.agg #[.string ⟨#[83]⟩, .string ⟨#[83, 42]⟩, .string ⟨#[]⟩]) ∧ Below w.heap.size w w' := by
  go_enter Try.func33, Try.ntmps33
  go_wp2_with fail
  exact bodyPost_ret (v := .agg #[.string ⟨#[83]⟩, .string ⟨#[83, 42]⟩, .string ⟨#[]⟩]) (by simp [results, Try.results33, go_sem]) rfl ⟨rfl, (Below.refl _ _).alloc (Nat.le_refl _) _⟩
set_option maxRecDepth 100000 in
theorem frm57 (w : World) : Calls Try.prog 33 #[.int .i64 57] w fun e w' => e = .returned (.agg #[.string ⟨#[83]⟩, .string ⟨#[69, 83, 83, 63]⟩, .string ⟨#[]⟩]) ∧ Below w.heap.size w w' := by
  go_enter Try.func33, Try.ntmps33
  go_wp2_with fail
  exact bodyPost_ret (v := .agg #[.string ⟨#[83]⟩, .string ⟨#[69, 83, 83, 63]⟩, .string ⟨#[]⟩]) (by simp [results, Try.results33, go_sem]) rfl ⟨rfl, (Below.refl _ _).alloc (Nat.le_refl _) _⟩
set_option maxRecDepth 100000 in
theorem frm58 (w : World) : Calls Try.prog 33 #[.int .i64 58] w fun e w' => e = .returned (.agg #[.string ⟨#[83]⟩, .string ⟨#[69, 67, 42]⟩, .string ⟨#[]⟩]) ∧ Below w.heap.size w w' := by
  go_enter Try.func33, Try.ntmps33
  go_wp2_with fail
  exact bodyPost_ret (v := .agg #[.string ⟨#[83]⟩, .string ⟨#[69, 67, 42]⟩, .string ⟨#[]⟩]) (by simp [results, Try.results33, go_sem]) rfl ⟨rfl, (Below.refl _ _).alloc (Nat.le_refl _) _⟩
set_option maxRecDepth 100000 in
theorem frm59 (w : World) : Calls Try.prog 33 #[.int .i64 59] w fun e w' => e = .returned (.agg #[.string ⟨#[83]⟩, .string ⟨#[69, 67, 42]⟩, .string ⟨#[]⟩]) ∧ Below w.heap.size w w' := by
  go_enter Try.func33, Try.ntmps33
  go_wp2_with fail
  exact bodyPost_ret (v := .agg #[.string ⟨#[83]⟩, .string ⟨#[69, 67, 42]⟩, .string ⟨#[]⟩]) (by simp [results, Try.results33, go_sem]) rfl ⟨rfl, (Below.refl _ _).alloc (Nat.le_refl _) _⟩
set_option maxRecDepth 100000 in
theorem frm60 (w : World) : Calls Try.prog 33 #[.int .i64 60] w fun e w' => e = .returned (.agg #[.string ⟨#[83]⟩, .string ⟨#[69, 67, 42]⟩, .string ⟨#[]⟩]) ∧ Below w.heap.size w w' := by
  go_enter Try.func33, Try.ntmps33
  go_wp2_with fail
  exact bodyPost_ret (v := .agg #[.string ⟨#[83]⟩, .string ⟨#[69, 67, 42]⟩, .string ⟨#[]⟩]) (by simp [results, Try.results33, go_sem]) rfl ⟨rfl, (Below.refl _ _).alloc (Nat.le_refl _) _⟩
set_option maxRecDepth 100000 in
theorem frm61 (w : World) : Calls Try.prog 33 #[.int .i64 61] w fun e w' => e = .returned (.agg #[.string ⟨#[67]⟩, .string ⟨#[69, 42, 83]⟩, .string ⟨#[]⟩]) ∧ Below w.heap.size w w' := by
  go_enter Try.func33, Try.ntmps33
  go_wp2_with fail
  exact bodyPost_ret (v := .agg #[.string ⟨#[67]⟩, .string ⟨#[69, 42, 83]⟩, .string ⟨#[]⟩]) (by simp [results, Try.results33, go_sem]) rfl ⟨rfl, (Below.refl _ _).alloc (Nat.le_refl _) _⟩
set_option maxRecDepth 100000 in
theorem frm62 (w : World) : Calls Try.prog 33 #[.int .i64 62] w fun e w' => e = .returned (.agg #[.string ⟨#[83]⟩, .string ⟨#[69, 83]⟩, .string ⟨#[]⟩]) ∧ Below w.heap.size w w' := by
  go_enter Try.func33, Try.ntmps33
  go_wp2_with fail
  exact bodyPost_ret (v := .agg #[.string ⟨#[83]⟩, .string ⟨#[69, 83]⟩, .string ⟨#[]⟩]) (by simp [results, Try.results33, go_sem]) rfl ⟨rfl, (Below.refl _ _).alloc (Nat.le_refl _) _⟩
set_option maxRecDepth 100000 in
theorem frm63 (w : World) : Calls Try.prog 33 #[.int .i64 63] w fun e w' => e = .returned (.agg #[.string ⟨#[83]⟩, .string ⟨#[69, 83]⟩, .string ⟨#[]⟩]) ∧ Below w.heap.size w w' := by
  go_enter Try.func33, Try.ntmps33
  go_wp2_with fail
  exact bodyPost_ret (v := .agg #[.string ⟨#[83]⟩, .string ⟨#[69, 83]⟩, .string ⟨#[]⟩]) (by simp [results, Try.results33, go_sem]) rfl ⟨rfl, (Below.refl _ _).alloc (Nat.le_refl _) _⟩
set_option maxRecDepth 100000 in
theorem frm64 (w : World) : Calls Try.prog 33 #[.int .i64 64] w fun e w' => e = .returned (.agg #[.string ⟨#[83]⟩, .string ⟨#[69, 69, 83]⟩, .string ⟨#[78]⟩]) ∧ Below w.heap.size w w' := by
  go_enter Try.func33, Try.ntmps33
  go_wp2_with fail
  exact bodyPost_ret (v := .agg #[.string ⟨#[83]⟩, .string ⟨#[69, 69, 83]⟩, .string ⟨#[78]⟩]) (by simp [results, Try.results33, go_sem]) rfl ⟨rfl, (Below.refl _ _).alloc (Nat.le_refl _) _⟩
set_option maxRecDepth 100000 in
theorem frm65 (w : World) : Calls Try.prog 33 #[.int .i64 65] w fun e w' => e = .returned (.agg #[.string ⟨#[83]⟩, .string ⟨#[69, 69, 83]⟩, .string ⟨#[78]⟩]) ∧ Below w.heap.size w w' := by
  go_enter Try.func33, Try.ntmps33
  go_wp2_with fail
  exact bodyPost_ret (v := .agg #[.string ⟨#[83]⟩, .string ⟨#[69, 69, 83]⟩, .string ⟨#[78]⟩]) (by simp [results, Try.results33, go_sem]) rfl ⟨rfl, (Below.refl _ _).alloc (Nat.le_refl _) _⟩
set_option maxRecDepth 100000 in
theorem frm66 (w : World) : Calls Try.prog 33 #[.int .i64 66] w fun e w' => e = .returned (.agg #[.string ⟨#[83]⟩, .string ⟨#[116, 69, 69, 63]⟩, .string ⟨#[]⟩]) ∧ Below w.heap.size w w' := by
  go_enter Try.func33, Try.ntmps33
  go_wp2_with fail
  exact bodyPost_ret (v := .agg #[.string ⟨#[83]⟩, .string ⟨#[116, 69, 69, 63]⟩, .string ⟨#[]⟩]) (by simp [results, Try.results33, go_sem]) rfl ⟨rfl, (Below.refl _ _).alloc (Nat.le_refl _) _⟩
set_option maxRecDepth 100000 in
theorem frm67 (w : World) : Calls Try.prog 33 #[.int .i64 67] w fun e w' => e = .returned (.agg #[.string ⟨#[83]⟩, .string ⟨#[116, 69, 69, 63]⟩, .string ⟨#[]⟩]) ∧ Below w.heap.size w w' := by
  go_enter Try.func33, Try.ntmps33
  go_wp2_with fail
  exact bodyPost_ret (v := .agg #[.string ⟨#[83]⟩, .string ⟨#[116, 69, 69, 63]⟩, .string ⟨#[]⟩]) (by simp [results, Try.results33, go_sem]) rfl ⟨rfl, (Below.refl _ _).alloc (Nat.le_refl _) _⟩
set_option maxRecDepth 100000 in
theorem frm68 (w : World) : Calls Try.prog 33 #[.int .i64 68] w fun e w' => e = .returned (.agg #[.string ⟨#[83]⟩, .string ⟨#[69]⟩, .string ⟨#[]⟩]) ∧ Below w.heap.size w w' := by
  go_enter Try.func33, Try.ntmps33
  go_wp2_with fail
  exact bodyPost_ret (v := .agg #[.string ⟨#[83]⟩, .string ⟨#[69]⟩, .string ⟨#[]⟩]) (by simp [results, Try.results33, go_sem]) rfl ⟨rfl, (Below.refl _ _).alloc (Nat.le_refl _) _⟩
set_option maxRecDepth 100000 in
theorem frm69 (w : World) : Calls Try.prog 33 #[.int .i64 69] w fun e w' => e = .returned (.agg #[.string ⟨#[83]⟩, .string ⟨#[101]⟩, .string ⟨#[]⟩]) ∧ Below w.heap.size w w' := by
  go_enter Try.func33, Try.ntmps33
  go_wp2_with fail
  exact bodyPost_ret (v := .agg #[.string ⟨#[83]⟩, .string ⟨#[101]⟩, .string ⟨#[]⟩]) (by simp [results, Try.results33, go_sem]) rfl ⟨rfl, (Below.refl _ _).alloc (Nat.le_refl _) _⟩
set_option maxRecDepth 100000 in
theorem frm70 (w : World) : Calls Try.prog 33 #[.int .i64 70] w fun e w' => e = .returned (.agg #[.string ⟨#[83]⟩, .string ⟨#[69]⟩, .string ⟨#[]⟩]) ∧ Below w.heap.size w w' := by
  go_enter Try.func33, Try.ntmps33
  go_wp2_with fail
  exact bodyPost_ret (v := .agg #[.string ⟨#[83]⟩, .string ⟨#[69]⟩, .string ⟨#[]⟩]) (by simp [results, Try.results33, go_sem]) rfl ⟨rfl, (Below.refl _ _).alloc (Nat.le_refl _) _⟩
set_option maxRecDepth 100000 in
theorem frm71 (w : World) : Calls Try.prog 33 #[.int .i64 71] w fun e w' => e = .returned (.agg #[.string ⟨#[83]⟩, .string ⟨#[69, 42]⟩, .string ⟨#[88]⟩]) ∧ Below w.heap.size w w' := by
  go_enter Try.func33, Try.ntmps33
  go_wp2_with fail
  exact bodyPost_ret (v := .agg #[.string ⟨#[83]⟩, .string ⟨#[69, 42]⟩, .string ⟨#[88]⟩]) (by simp [results, Try.results33, go_sem]) rfl ⟨rfl, (Below.refl _ _).alloc (Nat.le_refl _) _⟩
set_option maxRecDepth 100000 in
theorem frm72 (w : World) : Calls Try.prog 33 #[.int .i64 72] w fun e w' => e = .returned (.agg #[.string ⟨#[83]⟩, .string ⟨#[69, 42]⟩, .string ⟨#[88]⟩]) ∧ Below w.heap.size w w' := by
  go_enter Try.func33, Try.ntmps33
  go_wp2_with fail
  exact bodyPost_ret (v := .agg #[.string ⟨#[83]⟩, .string ⟨#[69, 42]⟩, .string ⟨#[88]⟩]) (by simp [results, Try.results33, go_sem]) rfl ⟨rfl, (Below.refl _ _).alloc (Nat.le_refl _) _⟩
set_option maxRecDepth 100000 in
theorem frm73 (w : World) : Calls Try.prog 33 #[.int .i64 73] w fun e w' => e = .returned (.agg #[.string ⟨#[83]⟩, .string ⟨#[69, 42]⟩, .string ⟨#[88]⟩]) ∧ Below w.heap.size w w' := by
  go_enter Try.func33, Try.ntmps33
  go_wp2_with fail
  exact bodyPost_ret (v := .agg #[.string ⟨#[83]⟩, .string ⟨#[69, 42]⟩, .string ⟨#[88]⟩]) (by simp [results, Try.results33, go_sem]) rfl ⟨rfl, (Below.refl _ _).alloc (Nat.le_refl _) _⟩
set_option maxRecDepth 100000 in
theorem frm74 (w : World) : Calls Try.prog 33 #[.int .i64 74] w fun e w' => e = .returned (.agg #[.string ⟨#[83]⟩, .string ⟨#[69, 42]⟩, .string ⟨#[88]⟩]) ∧ Below w.heap.size w w' := by
  go_enter Try.func33, Try.ntmps33
  go_wp2_with fail
  exact bodyPost_ret (v := .agg #[.string ⟨#[83]⟩, .string ⟨#[69, 42]⟩, .string ⟨#[88]⟩]) (by simp [results, Try.results33, go_sem]) rfl ⟨rfl, (Below.refl _ _).alloc (Nat.le_refl _) _⟩
set_option maxRecDepth 100000 in
theorem frm75 (w : World) : Calls Try.prog 33 #[.int .i64 75] w fun e w' => e = .returned (.agg #[.string ⟨#[83]⟩, .string ⟨#[69]⟩, .string ⟨#[88]⟩]) ∧ Below w.heap.size w w' := by
  go_enter Try.func33, Try.ntmps33
  go_wp2_with fail
  exact bodyPost_ret (v := .agg #[.string ⟨#[83]⟩, .string ⟨#[69]⟩, .string ⟨#[88]⟩]) (by simp [results, Try.results33, go_sem]) rfl ⟨rfl, (Below.refl _ _).alloc (Nat.le_refl _) _⟩
set_option maxRecDepth 100000 in
theorem frm76 (w : World) : Calls Try.prog 33 #[.int .i64 76] w fun e w' => e = .returned (.agg #[.string ⟨#[83]⟩, .string ⟨#[]⟩, .string ⟨#[]⟩]) ∧ Below w.heap.size w w' := by
  go_enter Try.func33, Try.ntmps33
  go_wp2_with fail
  exact bodyPost_ret (v := .agg #[.string ⟨#[83]⟩, .string ⟨#[]⟩, .string ⟨#[]⟩]) (by simp [results, Try.results33, go_sem]) rfl ⟨rfl, (Below.refl _ _).alloc (Nat.le_refl _) _⟩
set_option maxRecDepth 100000 in
theorem frm77 (w : World) : Calls Try.prog 33 #[.int .i64 77] w fun e w' => e = .returned (.agg #[.string ⟨#[83]⟩, .string ⟨#[]⟩, .string ⟨#[]⟩]) ∧ Below w.heap.size w w' := by
  go_enter Try.func33, Try.ntmps33
  go_wp2_with fail
  exact bodyPost_ret (v := .agg #[.string ⟨#[83]⟩, .string ⟨#[]⟩, .string ⟨#[]⟩]) (by simp [results, Try.results33, go_sem]) rfl ⟨rfl, (Below.refl _ _).alloc (Nat.le_refl _) _⟩
end Go.Proofs.Ytpjnjcljaoaceaa
