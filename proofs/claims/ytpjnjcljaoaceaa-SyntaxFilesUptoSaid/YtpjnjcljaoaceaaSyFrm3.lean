/- The program's forms, the kinds from 32 to 55. -/
import Derived.Test.YtpjnjcljaoaceaaSyForm
import Derived.RegionTactic
namespace Go.Proofs.Ytpjnjcljaoaceaa
open Go Go.RowKit
set_option linter.unusedVariables false
set_option maxRecDepth 100000 in
theorem frm32 (w : World) : Calls Try.prog 34 #[.int .i64 32] w fun e w' => e = .returned (.agg #[.string ⟨#[77]⟩, .string ⟨#[116, 69]⟩, .string ⟨#[]⟩]) ∧ Below w.heap.size w w' := by
  go_enter Try.func34, Try.ntmps34
  go_wp2_with fail
  exact bodyPost_ret (v := .agg #[.string ⟨#[77]⟩, .string ⟨#[116, 69]⟩, .string ⟨#[]⟩]) (by simp [results, Try.results34, go_sem]) rfl ⟨rfl, (Below.refl _ _).alloc (Nat.le_refl _) _⟩
set_option maxRecDepth 100000 in
theorem frm33 (w : World) : Calls Try.prog 34 #[.int .i64 33] w fun e w' => e = .returned (.agg #[.string ⟨#[77]⟩, .string ⟨#[83]⟩, .string ⟨#[]⟩]) ∧ Below w.heap.size w w' := by
  go_enter Try.func34, Try.ntmps34
  go_wp2_with fail
  exact bodyPost_ret (v := .agg #[.string ⟨#[77]⟩, .string ⟨#[83]⟩, .string ⟨#[]⟩]) (by simp [results, Try.results34, go_sem]) rfl ⟨rfl, (Below.refl _ _).alloc (Nat.le_refl _) _⟩
set_option maxRecDepth 100000 in
theorem frm34 (w : World) : Calls Try.prog 34 #[.int .i64 34] w fun e w' => e = .returned (.agg #[.string ⟨#[77]⟩, .string ⟨#[101, 83]⟩, .string ⟨#[]⟩]) ∧ Below w.heap.size w w' := by
  go_enter Try.func34, Try.ntmps34
  go_wp2_with fail
  exact bodyPost_ret (v := .agg #[.string ⟨#[77]⟩, .string ⟨#[101, 83]⟩, .string ⟨#[]⟩]) (by simp [results, Try.results34, go_sem]) rfl ⟨rfl, (Below.refl _ _).alloc (Nat.le_refl _) _⟩
set_option maxRecDepth 100000 in
theorem frm35 (w : World) : Calls Try.prog 34 #[.int .i64 35] w fun e w' => e = .returned (.agg #[.string ⟨#[77]⟩, .string ⟨#[83]⟩, .string ⟨#[]⟩]) ∧ Below w.heap.size w w' := by
  go_enter Try.func34, Try.ntmps34
  go_wp2_with fail
  exact bodyPost_ret (v := .agg #[.string ⟨#[77]⟩, .string ⟨#[83]⟩, .string ⟨#[]⟩]) (by simp [results, Try.results34, go_sem]) rfl ⟨rfl, (Below.refl _ _).alloc (Nat.le_refl _) _⟩
set_option maxRecDepth 100000 in
theorem frm36 (w : World) : Calls Try.prog 34 #[.int .i64 36] w fun e w' => e = .returned (.agg #[.string ⟨#[77]⟩, .string ⟨#[83]⟩, .string ⟨#[]⟩]) ∧ Below w.heap.size w w' := by
  go_enter Try.func34, Try.ntmps34
  go_wp2_with fail
  exact bodyPost_ret (v := .agg #[.string ⟨#[77]⟩, .string ⟨#[83]⟩, .string ⟨#[]⟩]) (by simp [results, Try.results34, go_sem]) rfl ⟨rfl, (Below.refl _ _).alloc (Nat.le_refl _) _⟩
set_option maxRecDepth 100000 in
theorem frm37 (w : World) : Calls Try.prog 34 #[.int .i64 37] w fun e w' => e = .returned (.agg #[.string ⟨#[101]⟩, .string ⟨#[71, 43]⟩, .string ⟨#[]⟩]) ∧ Below w.heap.size w w' := by
  go_enter Try.func34, Try.ntmps34
  go_wp2_with fail
  exact bodyPost_ret (v := .agg #[.string ⟨#[101]⟩, .string ⟨#[71, 43]⟩, .string ⟨#[]⟩]) (by simp [results, Try.results34, go_sem]) rfl ⟨rfl, (Below.refl _ _).alloc (Nat.le_refl _) _⟩
set_option maxRecDepth 100000 in
theorem frm38 (w : World) : Calls Try.prog 34 #[.int .i64 38] w fun e w' => e = .returned (.agg #[.string ⟨#[71]⟩, .string ⟨#[116]⟩, .string ⟨#[]⟩]) ∧ Below w.heap.size w w' := by
  go_enter Try.func34, Try.ntmps34
  go_wp2_with fail
  exact bodyPost_ret (v := .agg #[.string ⟨#[71]⟩, .string ⟨#[116]⟩, .string ⟨#[]⟩]) (by simp [results, Try.results34, go_sem]) rfl ⟨rfl, (Below.refl _ _).alloc (Nat.le_refl _) _⟩
set_option maxRecDepth 100000 in
theorem frm39 (w : World) : Calls Try.prog 34 #[.int .i64 39] w fun e w' => e = .returned (.agg #[.string ⟨#[71]⟩, .string ⟨#[116]⟩, .string ⟨#[]⟩]) ∧ Below w.heap.size w w' := by
  go_enter Try.func34, Try.ntmps34
  go_wp2_with fail
  exact bodyPost_ret (v := .agg #[.string ⟨#[71]⟩, .string ⟨#[116]⟩, .string ⟨#[]⟩]) (by simp [results, Try.results34, go_sem]) rfl ⟨rfl, (Below.refl _ _).alloc (Nat.le_refl _) _⟩
set_option maxRecDepth 100000 in
theorem frm40 (w : World) : Calls Try.prog 34 #[.int .i64 40] w fun e w' => e = .returned (.agg #[.string ⟨#[71]⟩, .string ⟨#[116]⟩, .string ⟨#[]⟩]) ∧ Below w.heap.size w w' := by
  go_enter Try.func34, Try.ntmps34
  go_wp2_with fail
  exact bodyPost_ret (v := .agg #[.string ⟨#[71]⟩, .string ⟨#[116]⟩, .string ⟨#[]⟩]) (by simp [results, Try.results34, go_sem]) rfl ⟨rfl, (Below.refl _ _).alloc (Nat.le_refl _) _⟩
set_option maxRecDepth 100000 in
theorem frm41 (w : World) : Calls Try.prog 34 #[.int .i64 41] w fun e w' => e = .returned (.agg #[.string ⟨#[77]⟩, .string ⟨#[110, 120, 120]⟩, .string ⟨#[78]⟩]) ∧ Below w.heap.size w w' := by
  go_enter Try.func34, Try.ntmps34
  go_wp2_with fail
  exact bodyPost_ret (v := .agg #[.string ⟨#[77]⟩, .string ⟨#[110, 120, 120]⟩, .string ⟨#[78]⟩]) (by simp [results, Try.results34, go_sem]) rfl ⟨rfl, (Below.refl _ _).alloc (Nat.le_refl _) _⟩
set_option maxRecDepth 100000 in
theorem frm42 (w : World) : Calls Try.prog 34 #[.int .i64 42] w fun e w' => e = .returned (.agg #[.string ⟨#[77]⟩, .string ⟨#[110, 120]⟩, .string ⟨#[78]⟩]) ∧ Below w.heap.size w w' := by
  go_enter Try.func34, Try.ntmps34
  go_wp2_with fail
  exact bodyPost_ret (v := .agg #[.string ⟨#[77]⟩, .string ⟨#[110, 120]⟩, .string ⟨#[78]⟩]) (by simp [results, Try.results34, go_sem]) rfl ⟨rfl, (Below.refl _ _).alloc (Nat.le_refl _) _⟩
set_option maxRecDepth 100000 in
theorem frm43 (w : World) : Calls Try.prog 34 #[.int .i64 43] w fun e w' => e = .returned (.agg #[.string ⟨#[120]⟩, .string ⟨#[66, 42]⟩, .string ⟨#[]⟩]) ∧ Below w.heap.size w w' := by
  go_enter Try.func34, Try.ntmps34
  go_wp2_with fail
  exact bodyPost_ret (v := .agg #[.string ⟨#[120]⟩, .string ⟨#[66, 42]⟩, .string ⟨#[]⟩]) (by simp [results, Try.results34, go_sem]) rfl ⟨rfl, (Below.refl _ _).alloc (Nat.le_refl _) _⟩
set_option maxRecDepth 100000 in
theorem frm44 (w : World) : Calls Try.prog 34 #[.int .i64 44] w fun e w' => e = .returned (.agg #[.string ⟨#[66]⟩, .string ⟨#[69]⟩, .string ⟨#[78]⟩]) ∧ Below w.heap.size w w' := by
  go_enter Try.func34, Try.ntmps34
  go_wp2_with fail
  exact bodyPost_ret (v := .agg #[.string ⟨#[66]⟩, .string ⟨#[69]⟩, .string ⟨#[78]⟩]) (by simp [results, Try.results34, go_sem]) rfl ⟨rfl, (Below.refl _ _).alloc (Nat.le_refl _) _⟩
set_option maxRecDepth 100000 in
theorem frm45 (w : World) : Calls Try.prog 34 #[.int .i64 45] w fun e w' => e = .returned (.agg #[.string ⟨#[77]⟩, .string ⟨#[110, 69, 69, 98]⟩, .string ⟨#[78]⟩]) ∧ Below w.heap.size w w' := by
  go_enter Try.func34, Try.ntmps34
  go_wp2_with fail
  exact bodyPost_ret (v := .agg #[.string ⟨#[77]⟩, .string ⟨#[110, 69, 69, 98]⟩, .string ⟨#[78]⟩]) (by simp [results, Try.results34, go_sem]) rfl ⟨rfl, (Below.refl _ _).alloc (Nat.le_refl _) _⟩
set_option maxRecDepth 100000 in
theorem frm46 (w : World) : Calls Try.prog 34 #[.int .i64 46] w fun e w' => e = .returned (.agg #[.string ⟨#[77, 119]⟩, .string ⟨#[69, 98, 119, 63]⟩, .string ⟨#[78]⟩]) ∧ Below w.heap.size w w' := by
  go_enter Try.func34, Try.ntmps34
  go_wp2_with fail
  exact bodyPost_ret (v := .agg #[.string ⟨#[77, 119]⟩, .string ⟨#[69, 98, 119, 63]⟩, .string ⟨#[78]⟩]) (by simp [results, Try.results34, go_sem]) rfl ⟨rfl, (Below.refl _ _).alloc (Nat.le_refl _) _⟩
set_option maxRecDepth 100000 in
theorem frm47 (w : World) : Calls Try.prog 34 #[.int .i64 47] w fun e w' => e = .returned (.agg #[.string ⟨#[119]⟩, .string ⟨#[98]⟩, .string ⟨#[78]⟩]) ∧ Below w.heap.size w w' := by
  go_enter Try.func34, Try.ntmps34
  go_wp2_with fail
  exact bodyPost_ret (v := .agg #[.string ⟨#[119]⟩, .string ⟨#[98]⟩, .string ⟨#[78]⟩]) (by simp [results, Try.results34, go_sem]) rfl ⟨rfl, (Below.refl _ _).alloc (Nat.le_refl _) _⟩
set_option maxRecDepth 100000 in
theorem frm48 (w : World) : Calls Try.prog 34 #[.int .i64 48] w fun e w' => e = .returned (.agg #[.string ⟨#[77]⟩, .string ⟨#[116, 88, 88]⟩, .string ⟨#[78]⟩]) ∧ Below w.heap.size w w' := by
  go_enter Try.func34, Try.ntmps34
  go_wp2_with fail
  exact bodyPost_ret (v := .agg #[.string ⟨#[77]⟩, .string ⟨#[116, 88, 88]⟩, .string ⟨#[78]⟩]) (by simp [results, Try.results34, go_sem]) rfl ⟨rfl, (Below.refl _ _).alloc (Nat.le_refl _) _⟩
set_option maxRecDepth 100000 in
theorem frm49 (w : World) : Calls Try.prog 34 #[.int .i64 49] w fun e w' => e = .returned (.agg #[.string ⟨#[77]⟩, .string ⟨#[116, 88, 88]⟩, .string ⟨#[78]⟩]) ∧ Below w.heap.size w w' := by
  go_enter Try.func34, Try.ntmps34
  go_wp2_with fail
  exact bodyPost_ret (v := .agg #[.string ⟨#[77]⟩, .string ⟨#[116, 88, 88]⟩, .string ⟨#[78]⟩]) (by simp [results, Try.results34, go_sem]) rfl ⟨rfl, (Below.refl _ _).alloc (Nat.le_refl _) _⟩
set_option maxRecDepth 100000 in
theorem frm50 (w : World) : Calls Try.prog 34 #[.int .i64 50] w fun e w' => e = .returned (.agg #[.string ⟨#[88]⟩, .string ⟨#[69]⟩, .string ⟨#[]⟩]) ∧ Below w.heap.size w w' := by
  go_enter Try.func34, Try.ntmps34
  go_wp2_with fail
  exact bodyPost_ret (v := .agg #[.string ⟨#[88]⟩, .string ⟨#[69]⟩, .string ⟨#[]⟩]) (by simp [results, Try.results34, go_sem]) rfl ⟨rfl, (Below.refl _ _).alloc (Nat.le_refl _) _⟩
set_option maxRecDepth 100000 in
theorem frm51 (w : World) : Calls Try.prog 34 #[.int .i64 51] w fun e w' => e = .returned (.agg #[.string ⟨#[88]⟩, .string ⟨#[88, 69, 117, 63, 88]⟩, .string ⟨#[]⟩]) ∧ Below w.heap.size w w' := by
  go_enter Try.func34, Try.ntmps34
  go_wp2_with fail
  exact bodyPost_ret (v := .agg #[.string ⟨#[88]⟩, .string ⟨#[88, 69, 117, 63, 88]⟩, .string ⟨#[]⟩]) (by simp [results, Try.results34, go_sem]) rfl ⟨rfl, (Below.refl _ _).alloc (Nat.le_refl _) _⟩
set_option maxRecDepth 100000 in
theorem frm52 (w : World) : Calls Try.prog 34 #[.int .i64 52] w fun e w' => e = .returned (.agg #[.string ⟨#[88]⟩, .string ⟨#[88, 88, 43]⟩, .string ⟨#[]⟩]) ∧ Below w.heap.size w w' := by
  go_enter Try.func34, Try.ntmps34
  go_wp2_with fail
  exact bodyPost_ret (v := .agg #[.string ⟨#[88]⟩, .string ⟨#[88, 88, 43]⟩, .string ⟨#[]⟩]) (by simp [results, Try.results34, go_sem]) rfl ⟨rfl, (Below.refl _ _).alloc (Nat.le_refl _) _⟩
set_option maxRecDepth 100000 in
theorem frm53 (w : World) : Calls Try.prog 34 #[.int .i64 53] w fun e w' => e = .returned (.agg #[.string ⟨#[88]⟩, .string ⟨#[88, 88]⟩, .string ⟨#[]⟩]) ∧ Below w.heap.size w w' := by
  go_enter Try.func34, Try.ntmps34
  go_wp2_with fail
  exact bodyPost_ret (v := .agg #[.string ⟨#[88]⟩, .string ⟨#[88, 88]⟩, .string ⟨#[]⟩]) (by simp [results, Try.results34, go_sem]) rfl ⟨rfl, (Below.refl _ _).alloc (Nat.le_refl _) _⟩
set_option maxRecDepth 100000 in
theorem frm54 (w : World) : Calls Try.prog 34 #[.int .i64 54] w fun e w' => e = .returned (.agg #[.string ⟨#[88]⟩, .string ⟨#[88, 69, 117, 63]⟩, .string ⟨#[]⟩]) ∧ Below w.heap.size w w' := by
  go_enter Try.func34, Try.ntmps34
  go_wp2_with fail
  exact bodyPost_ret (v := .agg #[.string ⟨#[88]⟩, .string ⟨#[88, 69, 117, 63]⟩, .string ⟨#[]⟩]) (by simp [results, Try.results34, go_sem]) rfl ⟨rfl, (Below.refl _ _).alloc (Nat.le_refl _) _⟩
set_option maxRecDepth 100000 in
theorem frm55 (w : World) : Calls Try.prog 34 #[.int .i64 55] w fun e w' => e = .returned (.agg #[.string ⟨#[117]⟩, .string ⟨#[]⟩, .string ⟨#[]⟩]) ∧ Below w.heap.size w w' := by
  go_enter Try.func34, Try.ntmps34
  go_wp2_with fail
  exact bodyPost_ret (v := .agg #[.string ⟨#[117]⟩, .string ⟨#[]⟩, .string ⟨#[]⟩]) (by simp [results, Try.results34, go_sem]) rfl ⟨rfl, (Below.refl _ _).alloc (Nat.le_refl _) _⟩
end Go.Proofs.Ytpjnjcljaoaceaa
