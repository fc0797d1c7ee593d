/- The program's forms, the kinds from 17 to 31. -/
import Derived.Test.YtpjnjcljaoaceaaSyForm
import Derived.RegionTactic
namespace Go.Proofs.Ytpjnjcljaoaceaa
open Go Go.RowKit
set_option linter.unusedVariables false
set_option maxRecDepth 100000 in
theorem frm17 (w : World) : Calls Try.prog 35 #[.int .i64 17] w fun e w' => e = .returned (.agg #[.string ⟨#[77, 86]⟩, .string ⟨#[84, 68, 43]⟩, .string ⟨#[]⟩]) ∧ Below w.heap.size w w' := by
  go_enter Try.func35, Try.ntmps35
  go_wp2_with fail
  exact bodyPost_ret (v := .agg #[.string ⟨#[77, 86]⟩, .string ⟨#[84, 68, 43]⟩, .string ⟨#[]⟩]) (by simp [results, Try.results35, go_sem]) rfl ⟨rfl, (Below.refl _ _).alloc (Nat.le_refl _) _⟩
set_option maxRecDepth 100000 in
theorem frm18 (w : World) : Calls Try.prog 35 #[.int .i64 18] w fun e w' => e = .returned (.agg #[.string ⟨#[77, 118]⟩, .string ⟨#[84, 68, 43]⟩, .string ⟨#[]⟩]) ∧ Below w.heap.size w w' := by
  go_enter Try.func35, Try.ntmps35
  go_wp2_with fail
  exact bodyPost_ret (v := .agg #[.string ⟨#[77, 118]⟩, .string ⟨#[84, 68, 43]⟩, .string ⟨#[]⟩]) (by simp [results, Try.results35, go_sem]) rfl ⟨rfl, (Below.refl _ _).alloc (Nat.le_refl _) _⟩
set_option maxRecDepth 100000 in
theorem frm19 (w : World) : Calls Try.prog 35 #[.int .i64 19] w fun e w' => e = .returned (.agg #[.string ⟨#[68]⟩, .string ⟨#[82, 63, 69, 63]⟩, .string ⟨#[78]⟩]) ∧ Below w.heap.size w w' := by
  go_enter Try.func35, Try.ntmps35
  go_wp2_with fail
  exact bodyPost_ret (v := .agg #[.string ⟨#[68]⟩, .string ⟨#[82, 63, 69, 63]⟩, .string ⟨#[78]⟩]) (by simp [results, Try.results35, go_sem]) rfl ⟨rfl, (Below.refl _ _).alloc (Nat.le_refl _) _⟩
set_option maxRecDepth 100000 in
theorem frm20 (w : World) : Calls Try.prog 35 #[.int .i64 20] w fun e w' => e = .returned (.agg #[.string ⟨#[73, 77]⟩, .string ⟨#[69]⟩, .string ⟨#[78]⟩]) ∧ Below w.heap.size w w' := by
  go_enter Try.func35, Try.ntmps35
  go_wp2_with fail
  exact bodyPost_ret (v := .agg #[.string ⟨#[73, 77]⟩, .string ⟨#[69]⟩, .string ⟨#[78]⟩]) (by simp [results, Try.results35, go_sem]) rfl ⟨rfl, (Below.refl _ _).alloc (Nat.le_refl _) _⟩
set_option maxRecDepth 100000 in
theorem frm21 (w : World) : Calls Try.prog 35 #[.int .i64 21] w fun e w' => e = .returned (.agg #[.string ⟨#[73, 77]⟩, .string ⟨#[82, 109, 43]⟩, .string ⟨#[78]⟩]) ∧ Below w.heap.size w w' := by
  go_enter Try.func35, Try.ntmps35
  go_wp2_with fail
  exact bodyPost_ret (v := .agg #[.string ⟨#[73, 77]⟩, .string ⟨#[82, 109, 43]⟩, .string ⟨#[78]⟩]) (by simp [results, Try.results35, go_sem]) rfl ⟨rfl, (Below.refl _ _).alloc (Nat.le_refl _) _⟩
set_option maxRecDepth 100000 in
theorem frm22 (w : World) : Calls Try.prog 35 #[.int .i64 22] w fun e w' => e = .returned (.agg #[.string ⟨#[109]⟩, .string ⟨#[69, 63]⟩, .string ⟨#[78]⟩]) ∧ Below w.heap.size w w' := by
  go_enter Try.func35, Try.ntmps35
  go_wp2_with fail
  exact bodyPost_ret (v := .agg #[.string ⟨#[109]⟩, .string ⟨#[69, 63]⟩, .string ⟨#[78]⟩]) (by simp [results, Try.results35, go_sem]) rfl ⟨rfl, (Below.refl _ _).alloc (Nat.le_refl _) _⟩
set_option maxRecDepth 100000 in
theorem frm23 (w : World) : Calls Try.prog 35 #[.int .i64 23] w fun e w' => e = .returned (.agg #[.string ⟨#[73, 77]⟩, .string ⟨#[102, 43]⟩, .string ⟨#[78]⟩]) ∧ Below w.heap.size w w' := by
  go_enter Try.func35, Try.ntmps35
  go_wp2_with fail
  exact bodyPost_ret (v := .agg #[.string ⟨#[73, 77]⟩, .string ⟨#[102, 43]⟩, .string ⟨#[78]⟩]) (by simp [results, Try.results35, go_sem]) rfl ⟨rfl, (Below.refl _ _).alloc (Nat.le_refl _) _⟩
set_option maxRecDepth 100000 in
theorem frm24 (w : World) : Calls Try.prog 35 #[.int .i64 24] w fun e w' => e = .returned (.agg #[.string ⟨#[102]⟩, .string ⟨#[84]⟩, .string ⟨#[78]⟩]) ∧ Below w.heap.size w w' := by
  go_enter Try.func35, Try.ntmps35
  go_wp2_with fail
  exact bodyPost_ret (v := .agg #[.string ⟨#[102]⟩, .string ⟨#[84]⟩, .string ⟨#[78]⟩]) (by simp [results, Try.results35, go_sem]) rfl ⟨rfl, (Below.refl _ _).alloc (Nat.le_refl _) _⟩
set_option maxRecDepth 100000 in
theorem frm25 (w : World) : Calls Try.prog 35 #[.int .i64 25] w fun e w' => e = .returned (.agg #[.string ⟨#[86]⟩, .string ⟨#[100, 43]⟩, .string ⟨#[78]⟩]) ∧ Below w.heap.size w w' := by
  go_enter Try.func35, Try.ntmps35
  go_wp2_with fail
  exact bodyPost_ret (v := .agg #[.string ⟨#[86]⟩, .string ⟨#[100, 43]⟩, .string ⟨#[78]⟩]) (by simp [results, Try.results35, go_sem]) rfl ⟨rfl, (Below.refl _ _).alloc (Nat.le_refl _) _⟩
set_option maxRecDepth 100000 in
theorem frm26 (w : World) : Calls Try.prog 35 #[.int .i64 26] w fun e w' => e = .returned (.agg #[.string ⟨#[100]⟩, .string ⟨#[]⟩, .string ⟨#[78]⟩]) ∧ Below w.heap.size w w' := by
  go_enter Try.func35, Try.ntmps35
  go_wp2_with fail
  exact bodyPost_ret (v := .agg #[.string ⟨#[100]⟩, .string ⟨#[]⟩, .string ⟨#[78]⟩]) (by simp [results, Try.results35, go_sem]) rfl ⟨rfl, (Below.refl _ _).alloc (Nat.le_refl _) _⟩
set_option maxRecDepth 100000 in
theorem frm27 (w : World) : Calls Try.prog 35 #[.int .i64 27] w fun e w' => e = .returned (.agg #[.string ⟨#[100]⟩, .string ⟨#[]⟩, .string ⟨#[78]⟩]) ∧ Below w.heap.size w w' := by
  go_enter Try.func35, Try.ntmps35
  go_wp2_with fail
  exact bodyPost_ret (v := .agg #[.string ⟨#[100]⟩, .string ⟨#[]⟩, .string ⟨#[78]⟩]) (by simp [results, Try.results35, go_sem]) rfl ⟨rfl, (Below.refl _ _).alloc (Nat.le_refl _) _⟩
set_option maxRecDepth 100000 in
theorem frm28 (w : World) : Calls Try.prog 35 #[.int .i64 28] w fun e w' => e = .returned (.agg #[.string ⟨#[73, 77]⟩, .string ⟨#[84, 97, 104]⟩, .string ⟨#[78]⟩]) ∧ Below w.heap.size w w' := by
  go_enter Try.func35, Try.ntmps35
  go_wp2_with fail
  exact bodyPost_ret (v := .agg #[.string ⟨#[73, 77]⟩, .string ⟨#[84, 97, 104]⟩, .string ⟨#[78]⟩]) (by simp [results, Try.results35, go_sem]) rfl ⟨rfl, (Below.refl _ _).alloc (Nat.le_refl _) _⟩
set_option maxRecDepth 100000 in
theorem frm29 (w : World) : Calls Try.prog 35 #[.int .i64 29] w fun e w' => e = .returned (.agg #[.string ⟨#[97]⟩, .string ⟨#[103, 42]⟩, .string ⟨#[]⟩]) ∧ Below w.heap.size w w' := by
  go_enter Try.func35, Try.ntmps35
  go_wp2_with fail
  exact bodyPost_ret (v := .agg #[.string ⟨#[97]⟩, .string ⟨#[103, 42]⟩, .string ⟨#[]⟩]) (by simp [results, Try.results35, go_sem]) rfl ⟨rfl, (Below.refl _ _).alloc (Nat.le_refl _) _⟩
set_option maxRecDepth 100000 in
theorem frm30 (w : World) : Calls Try.prog 35 #[.int .i64 30] w fun e w' => e = .returned (.agg #[.string ⟨#[103]⟩, .string ⟨#[84]⟩, .string ⟨#[78]⟩]) ∧ Below w.heap.size w w' := by
  go_enter Try.func35, Try.ntmps35
  go_wp2_with fail
  exact bodyPost_ret (v := .agg #[.string ⟨#[103]⟩, .string ⟨#[84]⟩, .string ⟨#[78]⟩]) (by simp [results, Try.results35, go_sem]) rfl ⟨rfl, (Below.refl _ _).alloc (Nat.le_refl _) _⟩
set_option maxRecDepth 100000 in
theorem frm31 (w : World) : Calls Try.prog 35 #[.int .i64 31] w fun e w' => e = .returned (.agg #[.string ⟨#[104]⟩, .string ⟨#[118, 42, 83, 42]⟩, .string ⟨#[]⟩]) ∧ Below w.heap.size w w' := by
  go_enter Try.func35, Try.ntmps35
  go_wp2_with fail
  exact bodyPost_ret (v := .agg #[.string ⟨#[104]⟩, .string ⟨#[118, 42, 83, 42]⟩, .string ⟨#[]⟩]) (by simp [results, Try.results35, go_sem]) rfl ⟨rfl, (Below.refl _ _).alloc (Nat.le_refl _) _⟩
end Go.Proofs.Ytpjnjcljaoaceaa
