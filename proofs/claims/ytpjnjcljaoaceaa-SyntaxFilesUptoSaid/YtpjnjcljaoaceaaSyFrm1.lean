/- The program's forms, the kinds from 0 to 16. -/
import Derived.Test.YtpjnjcljaoaceaaSyForm
import Derived.RegionTactic
namespace Go.Proofs.Ytpjnjcljaoaceaa
open Go Go.RowKit
set_option linter.unusedVariables false
set_option maxRecDepth 100000 in
theorem frm0 (w : World) : Calls Try.prog 36 #[.int .i64 0] w fun e w' => e = .returned (.agg #[.string ⟨#[]⟩, .string ⟨#[]⟩, .string ⟨#[]⟩]) ∧ Below w.heap.size w w' := by
  go_enter Try.func36, Try.ntmps36
  go_wp2_with fail
  exact bodyPost_ret (v := .agg #[.string ⟨#[]⟩, .string ⟨#[]⟩, .string ⟨#[]⟩]) (by simp [results, Try.results36, go_sem]) rfl ⟨rfl, (Below.refl _ _).alloc (Nat.le_refl _) _⟩
set_option maxRecDepth 100000 in
theorem frm1 (w : World) : Calls Try.prog 36 #[.int .i64 1] w fun e w' => e = .returned (.agg #[.string ⟨#[70]⟩, .string ⟨#[73, 42]⟩, .string ⟨#[]⟩]) ∧ Below w.heap.size w w' := by
  go_enter Try.func36, Try.ntmps36
  go_wp2_with fail
  exact bodyPost_ret (v := .agg #[.string ⟨#[70]⟩, .string ⟨#[73, 42]⟩, .string ⟨#[]⟩]) (by simp [results, Try.results36, go_sem]) rfl ⟨rfl, (Below.refl _ _).alloc (Nat.le_refl _) _⟩
set_option maxRecDepth 100000 in
theorem frm2 (w : World) : Calls Try.prog 36 #[.int .i64 2] w fun e w' => e = .returned (.agg #[.string ⟨#[73]⟩, .string ⟨#[112, 113, 98]⟩, .string ⟨#[78]⟩]) ∧ Below w.heap.size w w' := by
  go_enter Try.func36, Try.ntmps36
  go_wp2_with fail
  exact bodyPost_ret (v := .agg #[.string ⟨#[73]⟩, .string ⟨#[112, 113, 98]⟩, .string ⟨#[78]⟩]) (by simp [results, Try.results36, go_sem]) rfl ⟨rfl, (Below.refl _ _).alloc (Nat.le_refl _) _⟩
set_option maxRecDepth 100000 in
theorem frm3 (w : World) : Calls Try.prog 36 #[.int .i64 3] w fun e w' => e = .returned (.agg #[.string ⟨#[73]⟩, .string ⟨#[112, 105]⟩, .string ⟨#[78]⟩]) ∧ Below w.heap.size w w' := by
  go_enter Try.func36, Try.ntmps36
  go_wp2_with fail
  exact bodyPost_ret (v := .agg #[.string ⟨#[73]⟩, .string ⟨#[112, 105]⟩, .string ⟨#[78]⟩]) (by simp [results, Try.results36, go_sem]) rfl ⟨rfl, (Below.refl _ _).alloc (Nat.le_refl _) _⟩
set_option maxRecDepth 100000 in
theorem frm4 (w : World) : Calls Try.prog 36 #[.int .i64 4] w fun e w' => e = .returned (.agg #[.string ⟨#[112]⟩, .string ⟨#[80, 42]⟩, .string ⟨#[]⟩]) ∧ Below w.heap.size w w' := by
  go_enter Try.func36, Try.ntmps36
  go_wp2_with fail
  exact bodyPost_ret (v := .agg #[.string ⟨#[112]⟩, .string ⟨#[80, 42]⟩, .string ⟨#[]⟩]) (by simp [results, Try.results36, go_sem]) rfl ⟨rfl, (Below.refl _ _).alloc (Nat.le_refl _) _⟩
set_option maxRecDepth 100000 in
theorem frm5 (w : World) : Calls Try.prog 36 #[.int .i64 5] w fun e w' => e = .returned (.agg #[.string ⟨#[80]⟩, .string ⟨#[69]⟩, .string ⟨#[78]⟩]) ∧ Below w.heap.size w w' := by
  go_enter Try.func36, Try.ntmps36
  go_wp2_with fail
  exact bodyPost_ret (v := .agg #[.string ⟨#[80]⟩, .string ⟨#[69]⟩, .string ⟨#[78]⟩]) (by simp [results, Try.results36, go_sem]) rfl ⟨rfl, (Below.refl _ _).alloc (Nat.le_refl _) _⟩
set_option maxRecDepth 100000 in
theorem frm6 (w : World) : Calls Try.prog 36 #[.int .i64 6] w fun e w' => e = .returned (.agg #[.string ⟨#[113]⟩, .string ⟨#[81, 42]⟩, .string ⟨#[]⟩]) ∧ Below w.heap.size w w' := by
  go_enter Try.func36, Try.ntmps36
  go_wp2_with fail
  exact bodyPost_ret (v := .agg #[.string ⟨#[113]⟩, .string ⟨#[81, 42]⟩, .string ⟨#[]⟩]) (by simp [results, Try.results36, go_sem]) rfl ⟨rfl, (Below.refl _ _).alloc (Nat.le_refl _) _⟩
set_option maxRecDepth 100000 in
theorem frm7 (w : World) : Calls Try.prog 36 #[.int .i64 7] w fun e w' => e = .returned (.agg #[.string ⟨#[81]⟩, .string ⟨#[84]⟩, .string ⟨#[78]⟩]) ∧ Below w.heap.size w w' := by
  go_enter Try.func36, Try.ntmps36
  go_wp2_with fail
  exact bodyPost_ret (v := .agg #[.string ⟨#[81]⟩, .string ⟨#[84]⟩, .string ⟨#[78]⟩]) (by simp [results, Try.results36, go_sem]) rfl ⟨rfl, (Below.refl _ _).alloc (Nat.le_refl _) _⟩
set_option maxRecDepth 100000 in
theorem frm8 (w : World) : Calls Try.prog 36 #[.int .i64 8] w fun e w' => e = .returned (.agg #[.string ⟨#[81]⟩, .string ⟨#[84]⟩, .string ⟨#[78]⟩]) ∧ Below w.heap.size w w' := by
  go_enter Try.func36, Try.ntmps36
  go_wp2_with fail
  exact bodyPost_ret (v := .agg #[.string ⟨#[81]⟩, .string ⟨#[84]⟩, .string ⟨#[78]⟩]) (by simp [results, Try.results36, go_sem]) rfl ⟨rfl, (Below.refl _ _).alloc (Nat.le_refl _) _⟩
set_option maxRecDepth 100000 in
theorem frm9 (w : World) : Calls Try.prog 36 #[.int .i64 9] w fun e w' => e = .returned (.agg #[.string ⟨#[81]⟩, .string ⟨#[84, 69, 63]⟩, .string ⟨#[78]⟩]) ∧ Below w.heap.size w w' := by
  go_enter Try.func36, Try.ntmps36
  go_wp2_with fail
  exact bodyPost_ret (v := .agg #[.string ⟨#[81]⟩, .string ⟨#[84, 69, 63]⟩, .string ⟨#[78]⟩]) (by simp [results, Try.results36, go_sem]) rfl ⟨rfl, (Below.refl _ _).alloc (Nat.le_refl _) _⟩
set_option maxRecDepth 100000 in
theorem frm10 (w : World) : Calls Try.prog 36 #[.int .i64 10] w fun e w' => e = .returned (.agg #[.string ⟨#[81]⟩, .string ⟨#[110, 110]⟩, .string ⟨#[78]⟩]) ∧ Below w.heap.size w w' := by
  go_enter Try.func36, Try.ntmps36
  go_wp2_with fail
  exact bodyPost_ret (v := .agg #[.string ⟨#[81]⟩, .string ⟨#[110, 110]⟩, .string ⟨#[78]⟩]) (by simp [results, Try.results36, go_sem]) rfl ⟨rfl, (Below.refl _ _).alloc (Nat.le_refl _) _⟩
set_option maxRecDepth 100000 in
theorem frm11 (w : World) : Calls Try.prog 36 #[.int .i64 11] w fun e w' => e = .returned (.agg #[.string ⟨#[98]⟩, .string ⟨#[77, 42]⟩, .string ⟨#[]⟩]) ∧ Below w.heap.size w w' := by
  go_enter Try.func36, Try.ntmps36
  go_wp2_with fail
  exact bodyPost_ret (v := .agg #[.string ⟨#[98]⟩, .string ⟨#[77, 42]⟩, .string ⟨#[]⟩]) (by simp [results, Try.results36, go_sem]) rfl ⟨rfl, (Below.refl _ _).alloc (Nat.le_refl _) _⟩
set_option maxRecDepth 100000 in
theorem frm12 (w : World) : Calls Try.prog 36 #[.int .i64 12] w fun e w' => e = .returned (.agg #[.string ⟨#[105]⟩, .string ⟨#[86, 42]⟩, .string ⟨#[]⟩]) ∧ Below w.heap.size w w' := by
  go_enter Try.func36, Try.ntmps36
  go_wp2_with fail
  exact bodyPost_ret (v := .agg #[.string ⟨#[105]⟩, .string ⟨#[86, 42]⟩, .string ⟨#[]⟩]) (by simp [results, Try.results36, go_sem]) rfl ⟨rfl, (Below.refl _ _).alloc (Nat.le_refl _) _⟩
set_option maxRecDepth 100000 in
theorem frm13 (w : World) : Calls Try.prog 36 #[.int .i64 13] w fun e w' => e = .returned (.agg #[.string ⟨#[110]⟩, .string ⟨#[]⟩, .string ⟨#[78]⟩]) ∧ Below w.heap.size w w' := by
  go_enter Try.func36, Try.ntmps36
  go_wp2_with fail
  exact bodyPost_ret (v := .agg #[.string ⟨#[110]⟩, .string ⟨#[]⟩, .string ⟨#[78]⟩]) (by simp [results, Try.results36, go_sem]) rfl ⟨rfl, (Below.refl _ _).alloc (Nat.le_refl _) _⟩
set_option maxRecDepth 100000 in
theorem frm14 (w : World) : Calls Try.prog 36 #[.int .i64 14] w fun e w' => e = .returned (.agg #[.string ⟨#[84]⟩, .string ⟨#[82, 63]⟩, .string ⟨#[83]⟩]) ∧ Below w.heap.size w w' := by
  go_enter Try.func36, Try.ntmps36
  go_wp2_with fail
  exact bodyPost_ret (v := .agg #[.string ⟨#[84]⟩, .string ⟨#[82, 63]⟩, .string ⟨#[83]⟩]) (by simp [results, Try.results36, go_sem]) rfl ⟨rfl, (Below.refl _ _).alloc (Nat.le_refl _) _⟩
set_option maxRecDepth 100000 in
theorem frm15 (w : World) : Calls Try.prog 36 #[.int .i64 15] w fun e w' => e = .returned (.agg #[.string ⟨#[84]⟩, .string ⟨#[]⟩, .string ⟨#[78]⟩]) ∧ Below w.heap.size w w' := by
  go_enter Try.func36, Try.ntmps36
  go_wp2_with fail
  exact bodyPost_ret (v := .agg #[.string ⟨#[84]⟩, .string ⟨#[]⟩, .string ⟨#[78]⟩]) (by simp [results, Try.results36, go_sem]) rfl ⟨rfl, (Below.refl _ _).alloc (Nat.le_refl _) _⟩
set_option maxRecDepth 100000 in
theorem frm16 (w : World) : Calls Try.prog 36 #[.int .i64 16] w fun e w' => e = .returned (.agg #[.string ⟨#[82]⟩, .string ⟨#[69, 69]⟩, .string ⟨#[]⟩]) ∧ Below w.heap.size w w' := by
  go_enter Try.func36, Try.ntmps36
  go_wp2_with fail
  exact bodyPost_ret (v := .agg #[.string ⟨#[82]⟩, .string ⟨#[69, 69]⟩, .string ⟨#[]⟩]) (by simp [results, Try.results36, go_sem]) rfl ⟨rfl, (Below.refl _ _).alloc (Nat.le_refl _) _⟩
set_option maxRecDepth 100000 in
set_option maxHeartbeats 1000000 in
theorem frm_lo (k : Int) (h : k < 0) (w : World) : Calls Try.prog 36 #[.int .i64 k] w fun e w' => e = .returned (.agg #[.string ⟨#[]⟩, .string ⟨#[]⟩, .string ⟨#[]⟩]) ∧ Below w.heap.size w w' := by
  have h1 : (k == 1) = false := beq_eq_false_iff_ne.2 (by omega)
  have h2 : (k == 2) = false := beq_eq_false_iff_ne.2 (by omega)
  have h3 : (k == 3) = false := beq_eq_false_iff_ne.2 (by omega)
  have h4 : (k == 4) = false := beq_eq_false_iff_ne.2 (by omega)
  have h5 : (k == 5) = false := beq_eq_false_iff_ne.2 (by omega)
  have h6 : (k == 6) = false := beq_eq_false_iff_ne.2 (by omega)
  have h7 : (k == 7) = false := beq_eq_false_iff_ne.2 (by omega)
  have h8 : (k == 8) = false := beq_eq_false_iff_ne.2 (by omega)
  have h9 : (k == 9) = false := beq_eq_false_iff_ne.2 (by omega)
  have h10 : (k == 10) = false := beq_eq_false_iff_ne.2 (by omega)
  have h11 : (k == 11) = false := beq_eq_false_iff_ne.2 (by omega)
  have h12 : (k == 12) = false := beq_eq_false_iff_ne.2 (by omega)
  have h13 : (k == 13) = false := beq_eq_false_iff_ne.2 (by omega)
  have h14 : (k == 14) = false := beq_eq_false_iff_ne.2 (by omega)
  have h15 : (k == 15) = false := beq_eq_false_iff_ne.2 (by omega)
  have h16 : (k == 16) = false := beq_eq_false_iff_ne.2 (by omega)
  clear h
  go_enter Try.func36, Try.ntmps36
  go_wp2_with fail
  exact bodyPost_ret (v := .agg #[.string ⟨#[]⟩, .string ⟨#[]⟩, .string ⟨#[]⟩]) (by simp [results, Try.results36, go_sem]) rfl ⟨rfl, (Below.refl _ _).alloc (Nat.le_refl _) _⟩
end Go.Proofs.Ytpjnjcljaoaceaa
