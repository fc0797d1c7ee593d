/- The program's forms, the kinds from 78 to 121. -/
import Derived.Test.YtpjnjcljaoaceaaSyForm
import Derived.RegionTactic
namespace Go.Proofs.Ytpjnjcljaoaceaa
open Go Go.RowKit
set_option linter.unusedVariables false
set_option maxRecDepth 100000 in
theorem frm78 (w : World) : Calls Try.prog 32 #[.int .i64 78] w fun e w' => e = .returned (.agg #[.string ⟨#[69, 117]⟩, .string ⟨#[]⟩, .string ⟨#[86]⟩]) ∧ Below w.heap.size w w' := by
  go_enter Try.func32, Try.ntmps32
  go_wp2_with fail
  exact bodyPost_ret (v := .agg #[.string ⟨#[69, 117]⟩, .string ⟨#[]⟩, .string ⟨#[86]⟩]) (by simp [results, Try.results32, go_sem]) rfl ⟨rfl, (Below.refl _ _).alloc (Nat.le_refl _) _⟩
set_option maxRecDepth 100000 in
theorem frm79 (w : World) : Calls Try.prog 32 #[.int .i64 79] w fun e w' => e = .returned (.agg #[.string ⟨#[69, 117, 116]⟩, .string ⟨#[]⟩, .string ⟨#[78]⟩]) ∧ Below w.heap.size w w' := by
  go_enter Try.func32, Try.ntmps32
  go_wp2_with fail
  exact bodyPost_ret (v := .agg #[.string ⟨#[69, 117, 116]⟩, .string ⟨#[]⟩, .string ⟨#[78]⟩]) (by simp [results, Try.results32, go_sem]) rfl ⟨rfl, (Below.refl _ _).alloc (Nat.le_refl _) _⟩
set_option maxRecDepth 100000 in
theorem frm80 (w : World) : Calls Try.prog 32 #[.int .i64 80] w fun e w' => e = .returned (.agg #[.string ⟨#[69, 117, 116]⟩, .string ⟨#[69]⟩, .string ⟨#[78]⟩]) ∧ Below w.heap.size w w' := by
  go_enter Try.func32, Try.ntmps32
  go_wp2_with fail
  exact bodyPost_ret (v := .agg #[.string ⟨#[69, 117, 116]⟩, .string ⟨#[69]⟩, .string ⟨#[78]⟩]) (by simp [results, Try.results32, go_sem]) rfl ⟨rfl, (Below.refl _ _).alloc (Nat.le_refl _) _⟩
set_option maxRecDepth 100000 in
theorem frm81 (w : World) : Calls Try.prog 32 #[.int .i64 81] w fun e w' => e = .returned (.agg #[.string ⟨#[69, 117, 116]⟩, .string ⟨#[69, 69]⟩, .string ⟨#[]⟩]) ∧ Below w.heap.size w w' := by
  go_enter Try.func32, Try.ntmps32
  go_wp2_with fail
  exact bodyPost_ret (v := .agg #[.string ⟨#[69, 117, 116]⟩, .string ⟨#[69, 69]⟩, .string ⟨#[]⟩]) (by simp [results, Try.results32, go_sem]) rfl ⟨rfl, (Below.refl _ _).alloc (Nat.le_refl _) _⟩
set_option maxRecDepth 100000 in
theorem frm82 (w : World) : Calls Try.prog 32 #[.int .i64 82] w fun e w' => e = .returned (.agg #[.string ⟨#[69, 117, 116]⟩, .string ⟨#[69, 69, 69]⟩, .string ⟨#[]⟩]) ∧ Below w.heap.size w w' := by
  go_enter Try.func32, Try.ntmps32
  go_wp2_with fail
  exact bodyPost_ret (v := .agg #[.string ⟨#[69, 117, 116]⟩, .string ⟨#[69, 69, 69]⟩, .string ⟨#[]⟩]) (by simp [results, Try.results32, go_sem]) rfl ⟨rfl, (Below.refl _ _).alloc (Nat.le_refl _) _⟩
set_option maxRecDepth 100000 in
theorem frm83 (w : World) : Calls Try.prog 32 #[.int .i64 83] w fun e w' => e = .returned (.agg #[.string ⟨#[69, 117, 116]⟩, .string ⟨#[69, 69, 69]⟩, .string ⟨#[]⟩]) ∧ Below w.heap.size w w' := by
  go_enter Try.func32, Try.ntmps32
  go_wp2_with fail
  exact bodyPost_ret (v := .agg #[.string ⟨#[69, 117, 116]⟩, .string ⟨#[69, 69, 69]⟩, .string ⟨#[]⟩]) (by simp [results, Try.results32, go_sem]) rfl ⟨rfl, (Below.refl _ _).alloc (Nat.le_refl _) _⟩
set_option maxRecDepth 100000 in
theorem frm84 (w : World) : Calls Try.prog 32 #[.int .i64 84] w fun e w' => e = .returned (.agg #[.string ⟨#[69, 117]⟩, .string ⟨#[69, 42]⟩, .string ⟨#[78]⟩]) ∧ Below w.heap.size w w' := by
  go_enter Try.func32, Try.ntmps32
  go_wp2_with fail
  exact bodyPost_ret (v := .agg #[.string ⟨#[69, 117]⟩, .string ⟨#[69, 42]⟩, .string ⟨#[78]⟩]) (by simp [results, Try.results32, go_sem]) rfl ⟨rfl, (Below.refl _ _).alloc (Nat.le_refl _) _⟩
set_option maxRecDepth 100000 in
theorem frm85 (w : World) : Calls Try.prog 32 #[.int .i64 85] w fun e w' => e = .returned (.agg #[.string ⟨#[69, 117]⟩, .string ⟨#[69]⟩, .string ⟨#[]⟩]) ∧ Below w.heap.size w w' := by
  go_enter Try.func32, Try.ntmps32
  go_wp2_with fail
  exact bodyPost_ret (v := .agg #[.string ⟨#[69, 117]⟩, .string ⟨#[69]⟩, .string ⟨#[]⟩]) (by simp [results, Try.results32, go_sem]) rfl ⟨rfl, (Below.refl _ _).alloc (Nat.le_refl _) _⟩
set_option maxRecDepth 100000 in
theorem frm86 (w : World) : Calls Try.prog 32 #[.int .i64 86] w fun e w' => e = .returned (.agg #[.string ⟨#[69, 117]⟩, .string ⟨#[69]⟩, .string ⟨#[]⟩]) ∧ Below w.heap.size w w' := by
  go_enter Try.func32, Try.ntmps32
  go_wp2_with fail
  exact bodyPost_ret (v := .agg #[.string ⟨#[69, 117]⟩, .string ⟨#[69]⟩, .string ⟨#[]⟩]) (by simp [results, Try.results32, go_sem]) rfl ⟨rfl, (Below.refl _ _).alloc (Nat.le_refl _) _⟩
set_option maxRecDepth 100000 in
theorem frm87 (w : World) : Calls Try.prog 32 #[.int .i64 87] w fun e w' => e = .returned (.agg #[.string ⟨#[69, 117]⟩, .string ⟨#[69]⟩, .string ⟨#[]⟩]) ∧ Below w.heap.size w w' := by
  go_enter Try.func32, Try.ntmps32
  go_wp2_with fail
  exact bodyPost_ret (v := .agg #[.string ⟨#[69, 117]⟩, .string ⟨#[69]⟩, .string ⟨#[]⟩]) (by simp [results, Try.results32, go_sem]) rfl ⟨rfl, (Below.refl _ _).alloc (Nat.le_refl _) _⟩
set_option maxRecDepth 100000 in
theorem frm88 (w : World) : Calls Try.prog 32 #[.int .i64 88] w fun e w' => e = .returned (.agg #[.string ⟨#[69, 117]⟩, .string ⟨#[69]⟩, .string ⟨#[]⟩]) ∧ Below w.heap.size w w' := by
  go_enter Try.func32, Try.ntmps32
  go_wp2_with fail
  exact bodyPost_ret (v := .agg #[.string ⟨#[69, 117]⟩, .string ⟨#[69]⟩, .string ⟨#[]⟩]) (by simp [results, Try.results32, go_sem]) rfl ⟨rfl, (Below.refl _ _).alloc (Nat.le_refl _) _⟩
set_option maxRecDepth 100000 in
theorem frm89 (w : World) : Calls Try.prog 32 #[.int .i64 89] w fun e w' => e = .returned (.agg #[.string ⟨#[69, 117]⟩, .string ⟨#[69]⟩, .string ⟨#[]⟩]) ∧ Below w.heap.size w w' := by
  go_enter Try.func32, Try.ntmps32
  go_wp2_with fail
  exact bodyPost_ret (v := .agg #[.string ⟨#[69, 117]⟩, .string ⟨#[69]⟩, .string ⟨#[]⟩]) (by simp [results, Try.results32, go_sem]) rfl ⟨rfl, (Below.refl _ _).alloc (Nat.le_refl _) _⟩
set_option maxRecDepth 100000 in
theorem frm90 (w : World) : Calls Try.prog 32 #[.int .i64 90] w fun e w' => e = .returned (.agg #[.string ⟨#[69, 117]⟩, .string ⟨#[69]⟩, .string ⟨#[]⟩]) ∧ Below w.heap.size w w' := by
  go_enter Try.func32, Try.ntmps32
  go_wp2_with fail
  exact bodyPost_ret (v := .agg #[.string ⟨#[69, 117]⟩, .string ⟨#[69]⟩, .string ⟨#[]⟩]) (by simp [results, Try.results32, go_sem]) rfl ⟨rfl, (Below.refl _ _).alloc (Nat.le_refl _) _⟩
set_option maxRecDepth 100000 in
theorem frm91 (w : World) : Calls Try.prog 32 #[.int .i64 91] w fun e w' => e = .returned (.agg #[.string ⟨#[69, 117]⟩, .string ⟨#[69]⟩, .string ⟨#[]⟩]) ∧ Below w.heap.size w w' := by
  go_enter Try.func32, Try.ntmps32
  go_wp2_with fail
  exact bodyPost_ret (v := .agg #[.string ⟨#[69, 117]⟩, .string ⟨#[69]⟩, .string ⟨#[]⟩]) (by simp [results, Try.results32, go_sem]) rfl ⟨rfl, (Below.refl _ _).alloc (Nat.le_refl _) _⟩
set_option maxRecDepth 100000 in
theorem frm92 (w : World) : Calls Try.prog 32 #[.int .i64 92] w fun e w' => e = .returned (.agg #[.string ⟨#[69, 117]⟩, .string ⟨#[69, 69]⟩, .string ⟨#[]⟩]) ∧ Below w.heap.size w w' := by
  go_enter Try.func32, Try.ntmps32
  go_wp2_with fail
  exact bodyPost_ret (v := .agg #[.string ⟨#[69, 117]⟩, .string ⟨#[69, 69]⟩, .string ⟨#[]⟩]) (by simp [results, Try.results32, go_sem]) rfl ⟨rfl, (Below.refl _ _).alloc (Nat.le_refl _) _⟩
set_option maxRecDepth 100000 in
theorem frm93 (w : World) : Calls Try.prog 32 #[.int .i64 93] w fun e w' => e = .returned (.agg #[.string ⟨#[69, 117]⟩, .string ⟨#[69, 69]⟩, .string ⟨#[]⟩]) ∧ Below w.heap.size w w' := by
  go_enter Try.func32, Try.ntmps32
  go_wp2_with fail
  exact bodyPost_ret (v := .agg #[.string ⟨#[69, 117]⟩, .string ⟨#[69, 69]⟩, .string ⟨#[]⟩]) (by simp [results, Try.results32, go_sem]) rfl ⟨rfl, (Below.refl _ _).alloc (Nat.le_refl _) _⟩
set_option maxRecDepth 100000 in
theorem frm94 (w : World) : Calls Try.prog 32 #[.int .i64 94] w fun e w' => e = .returned (.agg #[.string ⟨#[69, 117]⟩, .string ⟨#[69, 69]⟩, .string ⟨#[]⟩]) ∧ Below w.heap.size w w' := by
  go_enter Try.func32, Try.ntmps32
  go_wp2_with fail
  exact bodyPost_ret (v := .agg #[.string ⟨#[69, 117]⟩, .string ⟨#[69, 69]⟩, .string ⟨#[]⟩]) (by simp [results, Try.results32, go_sem]) rfl ⟨rfl, (Below.refl _ _).alloc (Nat.le_refl _) _⟩
set_option maxRecDepth 100000 in
theorem frm95 (w : World) : Calls Try.prog 32 #[.int .i64 95] w fun e w' => e = .returned (.agg #[.string ⟨#[69, 117]⟩, .string ⟨#[69, 69]⟩, .string ⟨#[]⟩]) ∧ Below w.heap.size w w' := by
  go_enter Try.func32, Try.ntmps32
  go_wp2_with fail
  exact bodyPost_ret (v := .agg #[.string ⟨#[69, 117]⟩, .string ⟨#[69, 69]⟩, .string ⟨#[]⟩]) (by simp [results, Try.results32, go_sem]) rfl ⟨rfl, (Below.refl _ _).alloc (Nat.le_refl _) _⟩
set_option maxRecDepth 100000 in
theorem frm96 (w : World) : Calls Try.prog 32 #[.int .i64 96] w fun e w' => e = .returned (.agg #[.string ⟨#[69, 117]⟩, .string ⟨#[69, 69]⟩, .string ⟨#[]⟩]) ∧ Below w.heap.size w w' := by
  go_enter Try.func32, Try.ntmps32
  go_wp2_with fail
  exact bodyPost_ret (v := .agg #[.string ⟨#[69, 117]⟩, .string ⟨#[69, 69]⟩, .string ⟨#[]⟩]) (by simp [results, Try.results32, go_sem]) rfl ⟨rfl, (Below.refl _ _).alloc (Nat.le_refl _) _⟩
set_option maxRecDepth 100000 in
theorem frm97 (w : World) : Calls Try.prog 32 #[.int .i64 97] w fun e w' => e = .returned (.agg #[.string ⟨#[69, 117]⟩, .string ⟨#[69, 69]⟩, .string ⟨#[]⟩]) ∧ Below w.heap.size w w' := by
  go_enter Try.func32, Try.ntmps32
  go_wp2_with fail
  exact bodyPost_ret (v := .agg #[.string ⟨#[69, 117]⟩, .string ⟨#[69, 69]⟩, .string ⟨#[]⟩]) (by simp [results, Try.results32, go_sem]) rfl ⟨rfl, (Below.refl _ _).alloc (Nat.le_refl _) _⟩
set_option maxRecDepth 100000 in
theorem frm98 (w : World) : Calls Try.prog 32 #[.int .i64 98] w fun e w' => e = .returned (.agg #[.string ⟨#[69, 117]⟩, .string ⟨#[69, 69]⟩, .string ⟨#[]⟩]) ∧ Below w.heap.size w w' := by
  go_enter Try.func32, Try.ntmps32
  go_wp2_with fail
  exact bodyPost_ret (v := .agg #[.string ⟨#[69, 117]⟩, .string ⟨#[69, 69]⟩, .string ⟨#[]⟩]) (by simp [results, Try.results32, go_sem]) rfl ⟨rfl, (Below.refl _ _).alloc (Nat.le_refl _) _⟩
set_option maxRecDepth 100000 in
theorem frm99 (w : World) : Calls Try.prog 32 #[.int .i64 99] w fun e w' => e = .returned (.agg #[.string ⟨#[69, 117]⟩, .string ⟨#[69, 69]⟩, .string ⟨#[]⟩]) ∧ Below w.heap.size w w' := by
  go_enter Try.func32, Try.ntmps32
  go_wp2_with fail
  exact bodyPost_ret (v := .agg #[.string ⟨#[69, 117]⟩, .string ⟨#[69, 69]⟩, .string ⟨#[]⟩]) (by simp [results, Try.results32, go_sem]) rfl ⟨rfl, (Below.refl _ _).alloc (Nat.le_refl _) _⟩
set_option maxRecDepth 100000 in
theorem frm100 (w : World) : Calls Try.prog 32 #[.int .i64 100] w fun e w' => e = .returned (.agg #[.string ⟨#[69, 117]⟩, .string ⟨#[69, 69]⟩, .string ⟨#[]⟩]) ∧ Below w.heap.size w w' := by
  go_enter Try.func32, Try.ntmps32
  go_wp2_with fail
  exact bodyPost_ret (v := .agg #[.string ⟨#[69, 117]⟩, .string ⟨#[69, 69]⟩, .string ⟨#[]⟩]) (by simp [results, Try.results32, go_sem]) rfl ⟨rfl, (Below.refl _ _).alloc (Nat.le_refl _) _⟩
set_option maxRecDepth 100000 in
theorem frm101 (w : World) : Calls Try.prog 32 #[.int .i64 101] w fun e w' => e = .returned (.agg #[.string ⟨#[69, 117]⟩, .string ⟨#[69, 69]⟩, .string ⟨#[]⟩]) ∧ Below w.heap.size w w' := by
  go_enter Try.func32, Try.ntmps32
  go_wp2_with fail
  exact bodyPost_ret (v := .agg #[.string ⟨#[69, 117]⟩, .string ⟨#[69, 69]⟩, .string ⟨#[]⟩]) (by simp [results, Try.results32, go_sem]) rfl ⟨rfl, (Below.refl _ _).alloc (Nat.le_refl _) _⟩
set_option maxRecDepth 100000 in
theorem frm102 (w : World) : Calls Try.prog 32 #[.int .i64 102] w fun e w' => e = .returned (.agg #[.string ⟨#[69, 117]⟩, .string ⟨#[69, 69]⟩, .string ⟨#[]⟩]) ∧ Below w.heap.size w w' := by
  go_enter Try.func32, Try.ntmps32
  go_wp2_with fail
  exact bodyPost_ret (v := .agg #[.string ⟨#[69, 117]⟩, .string ⟨#[69, 69]⟩, .string ⟨#[]⟩]) (by simp [results, Try.results32, go_sem]) rfl ⟨rfl, (Below.refl _ _).alloc (Nat.le_refl _) _⟩
set_option maxRecDepth 100000 in
theorem frm103 (w : World) : Calls Try.prog 32 #[.int .i64 103] w fun e w' => e = .returned (.agg #[.string ⟨#[69, 117]⟩, .string ⟨#[69, 69]⟩, .string ⟨#[]⟩]) ∧ Below w.heap.size w w' := by
  go_enter Try.func32, Try.ntmps32
  go_wp2_with fail
  exact bodyPost_ret (v := .agg #[.string ⟨#[69, 117]⟩, .string ⟨#[69, 69]⟩, .string ⟨#[]⟩]) (by simp [results, Try.results32, go_sem]) rfl ⟨rfl, (Below.refl _ _).alloc (Nat.le_refl _) _⟩
set_option maxRecDepth 100000 in
theorem frm104 (w : World) : Calls Try.prog 32 #[.int .i64 104] w fun e w' => e = .returned (.agg #[.string ⟨#[69, 117]⟩, .string ⟨#[69, 69]⟩, .string ⟨#[]⟩]) ∧ Below w.heap.size w w' := by
  go_enter Try.func32, Try.ntmps32
  go_wp2_with fail
  exact bodyPost_ret (v := .agg #[.string ⟨#[69, 117]⟩, .string ⟨#[69, 69]⟩, .string ⟨#[]⟩]) (by simp [results, Try.results32, go_sem]) rfl ⟨rfl, (Below.refl _ _).alloc (Nat.le_refl _) _⟩
set_option maxRecDepth 100000 in
theorem frm105 (w : World) : Calls Try.prog 32 #[.int .i64 105] w fun e w' => e = .returned (.agg #[.string ⟨#[69, 117]⟩, .string ⟨#[69, 69]⟩, .string ⟨#[]⟩]) ∧ Below w.heap.size w w' := by
  go_enter Try.func32, Try.ntmps32
  go_wp2_with fail
  exact bodyPost_ret (v := .agg #[.string ⟨#[69, 117]⟩, .string ⟨#[69, 69]⟩, .string ⟨#[]⟩]) (by simp [results, Try.results32, go_sem]) rfl ⟨rfl, (Below.refl _ _).alloc (Nat.le_refl _) _⟩
set_option maxRecDepth 100000 in
theorem frm106 (w : World) : Calls Try.prog 32 #[.int .i64 106] w fun e w' => e = .returned (.agg #[.string ⟨#[69, 117]⟩, .string ⟨#[69, 69]⟩, .string ⟨#[]⟩]) ∧ Below w.heap.size w w' := by
  go_enter Try.func32, Try.ntmps32
  go_wp2_with fail
  exact bodyPost_ret (v := .agg #[.string ⟨#[69, 117]⟩, .string ⟨#[69, 69]⟩, .string ⟨#[]⟩]) (by simp [results, Try.results32, go_sem]) rfl ⟨rfl, (Below.refl _ _).alloc (Nat.le_refl _) _⟩
set_option maxRecDepth 100000 in
theorem frm107 (w : World) : Calls Try.prog 32 #[.int .i64 107] w fun e w' => e = .returned (.agg #[.string ⟨#[69, 117]⟩, .string ⟨#[69, 69]⟩, .string ⟨#[]⟩]) ∧ Below w.heap.size w w' := by
  go_enter Try.func32, Try.ntmps32
  go_wp2_with fail
  exact bodyPost_ret (v := .agg #[.string ⟨#[69, 117]⟩, .string ⟨#[69, 69]⟩, .string ⟨#[]⟩]) (by simp [results, Try.results32, go_sem]) rfl ⟨rfl, (Below.refl _ _).alloc (Nat.le_refl _) _⟩
set_option maxRecDepth 100000 in
theorem frm108 (w : World) : Calls Try.prog 32 #[.int .i64 108] w fun e w' => e = .returned (.agg #[.string ⟨#[69, 117]⟩, .string ⟨#[69, 69]⟩, .string ⟨#[]⟩]) ∧ Below w.heap.size w w' := by
  go_enter Try.func32, Try.ntmps32
  go_wp2_with fail
  exact bodyPost_ret (v := .agg #[.string ⟨#[69, 117]⟩, .string ⟨#[69, 69]⟩, .string ⟨#[]⟩]) (by simp [results, Try.results32, go_sem]) rfl ⟨rfl, (Below.refl _ _).alloc (Nat.le_refl _) _⟩
set_option maxRecDepth 100000 in
theorem frm109 (w : World) : Calls Try.prog 32 #[.int .i64 109] w fun e w' => e = .returned (.agg #[.string ⟨#[69, 117]⟩, .string ⟨#[69, 69]⟩, .string ⟨#[]⟩]) ∧ Below w.heap.size w w' := by
  go_enter Try.func32, Try.ntmps32
  go_wp2_with fail
  exact bodyPost_ret (v := .agg #[.string ⟨#[69, 117]⟩, .string ⟨#[69, 69]⟩, .string ⟨#[]⟩]) (by simp [results, Try.results32, go_sem]) rfl ⟨rfl, (Below.refl _ _).alloc (Nat.le_refl _) _⟩
set_option maxRecDepth 100000 in
theorem frm110 (w : World) : Calls Try.prog 32 #[.int .i64 110] w fun e w' => e = .returned (.agg #[.string ⟨#[69, 117]⟩, .string ⟨#[69, 69]⟩, .string ⟨#[]⟩]) ∧ Below w.heap.size w w' := by
  go_enter Try.func32, Try.ntmps32
  go_wp2_with fail
  exact bodyPost_ret (v := .agg #[.string ⟨#[69, 117]⟩, .string ⟨#[69, 69]⟩, .string ⟨#[]⟩]) (by simp [results, Try.results32, go_sem]) rfl ⟨rfl, (Below.refl _ _).alloc (Nat.le_refl _) _⟩
set_option maxRecDepth 100000 in
theorem frm111 (w : World) : Calls Try.prog 32 #[.int .i64 111] w fun e w' => e = .returned (.agg #[.string ⟨#[69, 117]⟩, .string ⟨#[69, 69]⟩, .string ⟨#[]⟩]) ∧ Below w.heap.size w w' := by
  go_enter Try.func32, Try.ntmps32
  go_wp2_with fail
  exact bodyPost_ret (v := .agg #[.string ⟨#[69, 117]⟩, .string ⟨#[69, 69]⟩, .string ⟨#[]⟩]) (by simp [results, Try.results32, go_sem]) rfl ⟨rfl, (Below.refl _ _).alloc (Nat.le_refl _) _⟩
set_option maxRecDepth 100000 in
theorem frm112 (w : World) : Calls Try.prog 32 #[.int .i64 112] w fun e w' => e = .returned (.agg #[.string ⟨#[69, 117]⟩, .string ⟨#[69, 69]⟩, .string ⟨#[]⟩]) ∧ Below w.heap.size w w' := by
  go_enter Try.func32, Try.ntmps32
  go_wp2_with fail
  exact bodyPost_ret (v := .agg #[.string ⟨#[69, 117]⟩, .string ⟨#[69, 69]⟩, .string ⟨#[]⟩]) (by simp [results, Try.results32, go_sem]) rfl ⟨rfl, (Below.refl _ _).alloc (Nat.le_refl _) _⟩
set_option maxRecDepth 100000 in
theorem frm113 (w : World) : Calls Try.prog 32 #[.int .i64 113] w fun e w' => e = .returned (.agg #[.string ⟨#[69, 117]⟩, .string ⟨#[69, 69, 69]⟩, .string ⟨#[]⟩]) ∧ Below w.heap.size w w' := by
  go_enter Try.func32, Try.ntmps32
  go_wp2_with fail
  exact bodyPost_ret (v := .agg #[.string ⟨#[69, 117]⟩, .string ⟨#[69, 69, 69]⟩, .string ⟨#[]⟩]) (by simp [results, Try.results32, go_sem]) rfl ⟨rfl, (Below.refl _ _).alloc (Nat.le_refl _) _⟩
set_option maxRecDepth 100000 in
theorem frm114 (w : World) : Calls Try.prog 32 #[.int .i64 114] w fun e w' => e = .returned (.agg #[.string ⟨#[69, 117, 116]⟩, .string ⟨#[69, 43]⟩, .string ⟨#[]⟩]) ∧ Below w.heap.size w w' := by
  go_enter Try.func32, Try.ntmps32
  go_wp2_with fail
  exact bodyPost_ret (v := .agg #[.string ⟨#[69, 117, 116]⟩, .string ⟨#[69, 43]⟩, .string ⟨#[]⟩]) (by simp [results, Try.results32, go_sem]) rfl ⟨rfl, (Below.refl _ _).alloc (Nat.le_refl _) _⟩
set_option maxRecDepth 100000 in
theorem frm115 (w : World) : Calls Try.prog 32 #[.int .i64 115] w fun e w' => e = .returned (.agg #[.string ⟨#[69, 117]⟩, .string ⟨#[69, 69]⟩, .string ⟨#[]⟩]) ∧ Below w.heap.size w w' := by
  go_enter Try.func32, Try.ntmps32
  go_wp2_with fail
  exact bodyPost_ret (v := .agg #[.string ⟨#[69, 117]⟩, .string ⟨#[69, 69]⟩, .string ⟨#[]⟩]) (by simp [results, Try.results32, go_sem]) rfl ⟨rfl, (Below.refl _ _).alloc (Nat.le_refl _) _⟩
set_option maxRecDepth 100000 in
theorem frm116 (w : World) : Calls Try.prog 32 #[.int .i64 116] w fun e w' => e = .returned (.agg #[.string ⟨#[69, 117]⟩, .string ⟨#[69]⟩, .string ⟨#[]⟩]) ∧ Below w.heap.size w w' := by
  go_enter Try.func32, Try.ntmps32
  go_wp2_with fail
  exact bodyPost_ret (v := .agg #[.string ⟨#[69, 117]⟩, .string ⟨#[69]⟩, .string ⟨#[]⟩]) (by simp [results, Try.results32, go_sem]) rfl ⟨rfl, (Below.refl _ _).alloc (Nat.le_refl _) _⟩
set_option maxRecDepth 100000 in
theorem frm117 (w : World) : Calls Try.prog 32 #[.int .i64 117] w fun e w' => e = .returned (.agg #[.string ⟨#[69, 117]⟩, .string ⟨#[69]⟩, .string ⟨#[]⟩]) ∧ Below w.heap.size w w' := by
  go_enter Try.func32, Try.ntmps32
  go_wp2_with fail
  exact bodyPost_ret (v := .agg #[.string ⟨#[69, 117]⟩, .string ⟨#[69]⟩, .string ⟨#[]⟩]) (by simp [results, Try.results32, go_sem]) rfl ⟨rfl, (Below.refl _ _).alloc (Nat.le_refl _) _⟩
set_option maxRecDepth 100000 in
theorem frm118 (w : World) : Calls Try.prog 32 #[.int .i64 118] w fun e w' => e = .returned (.agg #[.string ⟨#[69, 117]⟩, .string ⟨#[69, 69]⟩, .string ⟨#[]⟩]) ∧ Below w.heap.size w w' := by
  go_enter Try.func32, Try.ntmps32
  go_wp2_with fail
  exact bodyPost_ret (v := .agg #[.string ⟨#[69, 117]⟩, .string ⟨#[69, 69]⟩, .string ⟨#[]⟩]) (by simp [results, Try.results32, go_sem]) rfl ⟨rfl, (Below.refl _ _).alloc (Nat.le_refl _) _⟩
set_option maxRecDepth 100000 in
theorem frm119 (w : World) : Calls Try.prog 32 #[.int .i64 119] w fun e w' => e = .returned (.agg #[.string ⟨#[69, 117]⟩, .string ⟨#[69]⟩, .string ⟨#[]⟩]) ∧ Below w.heap.size w w' := by
  go_enter Try.func32, Try.ntmps32
  go_wp2_with fail
  exact bodyPost_ret (v := .agg #[.string ⟨#[69, 117]⟩, .string ⟨#[69]⟩, .string ⟨#[]⟩]) (by simp [results, Try.results32, go_sem]) rfl ⟨rfl, (Below.refl _ _).alloc (Nat.le_refl _) _⟩
set_option maxRecDepth 100000 in
theorem frm120 (w : World) : Calls Try.prog 32 #[.int .i64 120] w fun e w' => e = .returned (.agg #[.string ⟨#[69, 117]⟩, .string ⟨#[69]⟩, .string ⟨#[]⟩]) ∧ Below w.heap.size w w' := by
  go_enter Try.func32, Try.ntmps32
  go_wp2_with fail
  exact bodyPost_ret (v := .agg #[.string ⟨#[69, 117]⟩, .string ⟨#[69]⟩, .string ⟨#[]⟩]) (by simp [results, Try.results32, go_sem]) rfl ⟨rfl, (Below.refl _ _).alloc (Nat.le_refl _) _⟩
set_option maxRecDepth 100000 in
theorem frm121 (w : World) : Calls Try.prog 32 #[.int .i64 121] w fun e w' => e = .returned (.agg #[.string ⟨#[69, 117]⟩, .string ⟨#[]⟩, .string ⟨#[]⟩]) ∧ Below w.heap.size w w' := by
  go_enter Try.func32, Try.ntmps32
  go_wp2_with fail
  exact bodyPost_ret (v := .agg #[.string ⟨#[69, 117]⟩, .string ⟨#[]⟩, .string ⟨#[]⟩]) (by simp [results, Try.results32, go_sem]) rfl ⟨rfl, (Below.refl _ _).alloc (Nat.le_refl _) _⟩
set_option maxRecDepth 100000 in
set_option maxHeartbeats 1000000 in
theorem frm_hi (k : Int) (h : 121 < k) (w : World) : Calls Try.prog 32 #[.int .i64 k] w fun e w' => e = .returned (.agg #[.string ⟨#[]⟩, .string ⟨#[]⟩, .string ⟨#[]⟩]) ∧ Below w.heap.size w w' := by
  have h78 : (k == 78) = false := beq_eq_false_iff_ne.2 (by omega)
  have h79 : (k == 79) = false := beq_eq_false_iff_ne.2 (by omega)
  have h80 : (k == 80) = false := beq_eq_false_iff_ne.2 (by omega)
  have h81 : (k == 81) = false := beq_eq_false_iff_ne.2 (by omega)
  have h82 : (k == 82) = false := beq_eq_false_iff_ne.2 (by omega)
  have h83 : (k == 83) = false := beq_eq_false_iff_ne.2 (by omega)
  have h84 : (k == 84) = false := beq_eq_false_iff_ne.2 (by omega)
  have h85 : (k == 85) = false := beq_eq_false_iff_ne.2 (by omega)
  have h86 : (k == 86) = false := beq_eq_false_iff_ne.2 (by omega)
  have h87 : (k == 87) = false := beq_eq_false_iff_ne.2 (by omega)
  have h88 : (k == 88) = false := beq_eq_false_iff_ne.2 (by omega)
  have h89 : (k == 89) = false := beq_eq_false_iff_ne.2 (by omega)
  have h90 : (k == 90) = false := beq_eq_false_iff_ne.2 (by omega)
  have h91 : (k == 91) = false := beq_eq_false_iff_ne.2 (by omega)
  have h92 : (k == 92) = false := beq_eq_false_iff_ne.2 (by omega)
  have h93 : (k == 93) = false := beq_eq_false_iff_ne.2 (by omega)
  have h94 : (k == 94) = false := beq_eq_false_iff_ne.2 (by omega)
  have h95 : (k == 95) = false := beq_eq_false_iff_ne.2 (by omega)
  have h96 : (k == 96) = false := beq_eq_false_iff_ne.2 (by omega)
  have h97 : (k == 97) = false := beq_eq_false_iff_ne.2 (by omega)
  have h98 : (k == 98) = false := beq_eq_false_iff_ne.2 (by omega)
  have h99 : (k == 99) = false := beq_eq_false_iff_ne.2 (by omega)
  have h100 : (k == 100) = false := beq_eq_false_iff_ne.2 (by omega)
  have h101 : (k == 101) = false := beq_eq_false_iff_ne.2 (by omega)
  have h102 : (k == 102) = false := beq_eq_false_iff_ne.2 (by omega)
  have h103 : (k == 103) = false := beq_eq_false_iff_ne.2 (by omega)
  have h104 : (k == 104) = false := beq_eq_false_iff_ne.2 (by omega)
  have h105 : (k == 105) = false := beq_eq_false_iff_ne.2 (by omega)
  have h106 : (k == 106) = false := beq_eq_false_iff_ne.2 (by omega)
  have h107 : (k == 107) = false := beq_eq_false_iff_ne.2 (by omega)
  have h108 : (k == 108) = false := beq_eq_false_iff_ne.2 (by omega)
  have h109 : (k == 109) = false := beq_eq_false_iff_ne.2 (by omega)
  have h110 : (k == 110) = false := beq_eq_false_iff_ne.2 (by omega)
  have h111 : (k == 111) = false := beq_eq_false_iff_ne.2 (by omega)
  have h112 : (k == 112) = false := beq_eq_false_iff_ne.2 (by omega)
  have h113 : (k == 113) = false := beq_eq_false_iff_ne.2 (by omega)
  have h114 : (k == 114) = false := beq_eq_false_iff_ne.2 (by omega)
  have h115 : (k == 115) = false := beq_eq_false_iff_ne.2 (by omega)
  have h116 : (k == 116) = false := beq_eq_false_iff_ne.2 (by omega)
  have h117 : (k == 117) = false := beq_eq_false_iff_ne.2 (by omega)
  have h118 : (k == 118) = false := beq_eq_false_iff_ne.2 (by omega)
  have h119 : (k == 119) = false := beq_eq_false_iff_ne.2 (by omega)
  have h120 : (k == 120) = false := beq_eq_false_iff_ne.2 (by omega)
  have h121 : (k == 121) = false := beq_eq_false_iff_ne.2 (by omega)
  clear h
  go_enter Try.func32, Try.ntmps32
  go_wp2_with fail
  exact bodyPost_ret (v := .agg #[.string ⟨#[]⟩, .string ⟨#[]⟩, .string ⟨#[]⟩]) (by simp [results, Try.results32, go_sem]) rfl ⟨rfl, (Below.refl _ _).alloc (Nat.le_refl _) _⟩
end Go.Proofs.Ytpjnjcljaoaceaa
