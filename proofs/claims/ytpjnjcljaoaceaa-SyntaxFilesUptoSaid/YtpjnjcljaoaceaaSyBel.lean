/- The form of any kind; whether a kind belongs to a class. -/
import Derived.Test.YtpjnjcljaoaceaaSyFrm1
import Derived.Test.YtpjnjcljaoaceaaSyFrm2
import Derived.Test.YtpjnjcljaoaceaaSyFrm3
import Derived.Test.YtpjnjcljaoaceaaSyFrm4
import Derived.Test.YtpjnjcljaoaceaaSyFrm5
import Derived.Test.YtpjnjcljaoaceaaSyFact
import Derived.Test.YtpjnjcljaoaceaaSyTakM
import Derived.Lib.IndexAny
namespace Go.Proofs.Ytpjnjcljaoaceaa
open Go Go.RowKit
set_option linter.unusedVariables false
set_option maxRecDepth 100000 in
set_option maxHeartbeats 1000000 in
theorem form_g1 (k : Int) (h : k < 17) (A B C : ByteArray) (w : World) (hS : ∀ W, Calls Try.prog 36 #[.int .i64 k] W fun e w' => e = .returned (.agg #[.string A, .string B, .string C]) ∧ Below W.heap.size W w') : Calls Try.prog 21 #[.int .i64 k] w fun e w' => e = .returned (.agg #[.string A, .string B, .string C]) ∧ Below w.heap.size w w' := by
  have h78 : ¬ ((78 : Int) ≤ k) := by omega
  have h56 : ¬ ((56 : Int) ≤ k) := by omega
  have h32 : ¬ ((32 : Int) ≤ k) := by omega
  have h17 : ¬ ((17 : Int) ≤ k) := by omega
  clear h
  obtain ⟨W1, hW1⟩ : ∃ W, W = w.alloc (.cells #[.string ⟨#[]⟩, .string ⟨#[]⟩, .string ⟨#[]⟩] 55) := ⟨_, rfl⟩
  have b0 : Below w.heap.size w W1 := by rw [hW1]; exact (Below.refl _ _).alloc (Nat.le_refl _) _
  have x0 : W1.cell? ⟨w.heap.size, 0, none⟩ = some (.string ⟨#[]⟩) := by rw [hW1]; go_simp
  have x1 : W1.cell? ⟨w.heap.size, 1, none⟩ = some (.string ⟨#[]⟩) := by rw [hW1]; go_simp
  have x2 : W1.cell? ⟨w.heap.size, 2, none⟩ = some (.string ⟨#[]⟩) := by rw [hW1]; go_simp
  have y0 : ∀ o, W1.frozen? ⟨w.heap.size, o, none⟩ = false := by rw [hW1]; intro o; go_simp
  have hz : w.heap.size < W1.heap.size := World.block_lt_of_cell? W1 _ x0
  have HS := Lib.hid hS
  clear hS
  go_enter Try.func21, Try.ntmps21
  go_upto_region 1 with fail
  rw [← hW1]
  clear hW1
  go_wp2_with (refine (HS.out _).mono ?_; rintro e w3 ⟨rfl, hb3⟩; obtain ⟨hc, hf⟩ := bcell hb3; have z0 := (hc _ 0 hz).trans x0; have z1 := (hc _ 1 hz).trans x1; have z2 := (hc _ 2 hz).trans x2; have v0 := fun o => (hf _ o hz).trans (y0 o); clear hc hf x0 x1 x2 y0)
  obtain ⟨q0, q1, q2⟩ := set3 (a' := .string A) (b' := .string B) (c' := .string C) z0 z1 z2 v0
  exact bodyPost_ret (v := .agg #[.string A, .string B, .string C]) (by simp [results, Try.results21, go_sem, q0, q1, q2]) rfl ⟨rfl, (((b0.trans (hb3.mono b0.size)).setCell (Nat.le_refl _) _).setCell (Nat.le_refl _) _).setCell (Nat.le_refl _) _⟩
set_option maxRecDepth 100000 in
set_option maxHeartbeats 1000000 in
theorem form_g2 (k : Int) (h : 17 ≤ k ∧ k < 32) (A B C : ByteArray) (w : World) (hS : ∀ W, Calls Try.prog 35 #[.int .i64 k] W fun e w' => e = .returned (.agg #[.string A, .string B, .string C]) ∧ Below W.heap.size W w') : Calls Try.prog 21 #[.int .i64 k] w fun e w' => e = .returned (.agg #[.string A, .string B, .string C]) ∧ Below w.heap.size w w' := by
  have h78 : ¬ ((78 : Int) ≤ k) := by omega
  have h56 : ¬ ((56 : Int) ≤ k) := by omega
  have h32 : ¬ ((32 : Int) ≤ k) := by omega
  have h17 : (17 : Int) ≤ k := by omega
  clear h
  obtain ⟨W1, hW1⟩ : ∃ W, W = w.alloc (.cells #[.string ⟨#[]⟩, .string ⟨#[]⟩, .string ⟨#[]⟩] 55) := ⟨_, rfl⟩
  have b0 : Below w.heap.size w W1 := by rw [hW1]; exact (Below.refl _ _).alloc (Nat.le_refl _) _
  have x0 : W1.cell? ⟨w.heap.size, 0, none⟩ = some (.string ⟨#[]⟩) := by rw [hW1]; go_simp
  have x1 : W1.cell? ⟨w.heap.size, 1, none⟩ = some (.string ⟨#[]⟩) := by rw [hW1]; go_simp
  have x2 : W1.cell? ⟨w.heap.size, 2, none⟩ = some (.string ⟨#[]⟩) := by rw [hW1]; go_simp
  have y0 : ∀ o, W1.frozen? ⟨w.heap.size, o, none⟩ = false := by rw [hW1]; intro o; go_simp
  have hz : w.heap.size < W1.heap.size := World.block_lt_of_cell? W1 _ x0
  have HS := Lib.hid hS
  clear hS
  go_enter Try.func21, Try.ntmps21
  go_upto_region 1 with fail
  rw [← hW1]
  clear hW1
  go_wp2_with (refine (HS.out _).mono ?_; rintro e w3 ⟨rfl, hb3⟩; obtain ⟨hc, hf⟩ := bcell hb3; have z0 := (hc _ 0 hz).trans x0; have z1 := (hc _ 1 hz).trans x1; have z2 := (hc _ 2 hz).trans x2; have v0 := fun o => (hf _ o hz).trans (y0 o); clear hc hf x0 x1 x2 y0)
  obtain ⟨q0, q1, q2⟩ := set3 (a' := .string A) (b' := .string B) (c' := .string C) z0 z1 z2 v0
  exact bodyPost_ret (v := .agg #[.string A, .string B, .string C]) (by simp [results, Try.results21, go_sem, q0, q1, q2]) rfl ⟨rfl, (((b0.trans (hb3.mono b0.size)).setCell (Nat.le_refl _) _).setCell (Nat.le_refl _) _).setCell (Nat.le_refl _) _⟩
set_option maxRecDepth 100000 in
set_option maxHeartbeats 1000000 in
theorem form_g3 (k : Int) (h : 32 ≤ k ∧ k < 56) (A B C : ByteArray) (w : World) (hS : ∀ W, Calls Try.prog 34 #[.int .i64 k] W fun e w' => e = .returned (.agg #[.string A, .string B, .string C]) ∧ Below W.heap.size W w') : Calls Try.prog 21 #[.int .i64 k] w fun e w' => e = .returned (.agg #[.string A, .string B, .string C]) ∧ Below w.heap.size w w' := by
  have h78 : ¬ ((78 : Int) ≤ k) := by omega
  have h56 : ¬ ((56 : Int) ≤ k) := by omega
  have h32 : (32 : Int) ≤ k := by omega
  clear h
  obtain ⟨W1, hW1⟩ : ∃ W, W = w.alloc (.cells #[.string ⟨#[]⟩, .string ⟨#[]⟩, .string ⟨#[]⟩] 55) := ⟨_, rfl⟩
  have b0 : Below w.heap.size w W1 := by rw [hW1]; exact (Below.refl _ _).alloc (Nat.le_refl _) _
  have x0 : W1.cell? ⟨w.heap.size, 0, none⟩ = some (.string ⟨#[]⟩) := by rw [hW1]; go_simp
  have x1 : W1.cell? ⟨w.heap.size, 1, none⟩ = some (.string ⟨#[]⟩) := by rw [hW1]; go_simp
  have x2 : W1.cell? ⟨w.heap.size, 2, none⟩ = some (.string ⟨#[]⟩) := by rw [hW1]; go_simp
  have y0 : ∀ o, W1.frozen? ⟨w.heap.size, o, none⟩ = false := by rw [hW1]; intro o; go_simp
  have hz : w.heap.size < W1.heap.size := World.block_lt_of_cell? W1 _ x0
  have HS := Lib.hid hS
  clear hS
  go_enter Try.func21, Try.ntmps21
  go_upto_region 1 with fail
  rw [← hW1]
  clear hW1
  go_wp2_with (refine (HS.out _).mono ?_; rintro e w3 ⟨rfl, hb3⟩; obtain ⟨hc, hf⟩ := bcell hb3; have z0 := (hc _ 0 hz).trans x0; have z1 := (hc _ 1 hz).trans x1; have z2 := (hc _ 2 hz).trans x2; have v0 := fun o => (hf _ o hz).trans (y0 o); clear hc hf x0 x1 x2 y0)
  obtain ⟨q0, q1, q2⟩ := set3 (a' := .string A) (b' := .string B) (c' := .string C) z0 z1 z2 v0
  exact bodyPost_ret (v := .agg #[.string A, .string B, .string C]) (by simp [results, Try.results21, go_sem, q0, q1, q2]) rfl ⟨rfl, (((b0.trans (hb3.mono b0.size)).setCell (Nat.le_refl _) _).setCell (Nat.le_refl _) _).setCell (Nat.le_refl _) _⟩
set_option maxRecDepth 100000 in
set_option maxHeartbeats 1000000 in
theorem form_g4 (k : Int) (h : 56 ≤ k ∧ k < 78) (A B C : ByteArray) (w : World) (hS : ∀ W, Calls Try.prog 33 #[.int .i64 k] W fun e w' => e = .returned (.agg #[.string A, .string B, .string C]) ∧ Below W.heap.size W w') : Calls Try.prog 21 #[.int .i64 k] w fun e w' => e = .returned (.agg #[.string A, .string B, .string C]) ∧ Below w.heap.size w w' := by
  have h78 : ¬ ((78 : Int) ≤ k) := by omega
  have h56 : (56 : Int) ≤ k := by omega
  clear h
  obtain ⟨W1, hW1⟩ : ∃ W, W = w.alloc (.cells #[.string ⟨#[]⟩, .string ⟨#[]⟩, .string ⟨#[]⟩] 55) := ⟨_, rfl⟩
  have b0 : Below w.heap.size w W1 := by rw [hW1]; exact (Below.refl _ _).alloc (Nat.le_refl _) _
  have x0 : W1.cell? ⟨w.heap.size, 0, none⟩ = some (.string ⟨#[]⟩) := by rw [hW1]; go_simp
  have x1 : W1.cell? ⟨w.heap.size, 1, none⟩ = some (.string ⟨#[]⟩) := by rw [hW1]; go_simp
  have x2 : W1.cell? ⟨w.heap.size, 2, none⟩ = some (.string ⟨#[]⟩) := by rw [hW1]; go_simp
  have y0 : ∀ o, W1.frozen? ⟨w.heap.size, o, none⟩ = false := by rw [hW1]; intro o; go_simp
  have hz : w.heap.size < W1.heap.size := World.block_lt_of_cell? W1 _ x0
  have HS := Lib.hid hS
  clear hS
  go_enter Try.func21, Try.ntmps21
  go_upto_region 1 with fail
  rw [← hW1]
  clear hW1
  go_wp2_with (refine (HS.out _).mono ?_; rintro e w3 ⟨rfl, hb3⟩; obtain ⟨hc, hf⟩ := bcell hb3; have z0 := (hc _ 0 hz).trans x0; have z1 := (hc _ 1 hz).trans x1; have z2 := (hc _ 2 hz).trans x2; have v0 := fun o => (hf _ o hz).trans (y0 o); clear hc hf x0 x1 x2 y0)
  obtain ⟨q0, q1, q2⟩ := set3 (a' := .string A) (b' := .string B) (c' := .string C) z0 z1 z2 v0
  exact bodyPost_ret (v := .agg #[.string A, .string B, .string C]) (by simp [results, Try.results21, go_sem, q0, q1, q2]) rfl ⟨rfl, (((b0.trans (hb3.mono b0.size)).setCell (Nat.le_refl _) _).setCell (Nat.le_refl _) _).setCell (Nat.le_refl _) _⟩
set_option maxRecDepth 100000 in
set_option maxHeartbeats 1000000 in
theorem form_g5 (k : Int) (h : 78 ≤ k) (A B C : ByteArray) (w : World) (hS : ∀ W, Calls Try.prog 32 #[.int .i64 k] W fun e w' => e = .returned (.agg #[.string A, .string B, .string C]) ∧ Below W.heap.size W w') : Calls Try.prog 21 #[.int .i64 k] w fun e w' => e = .returned (.agg #[.string A, .string B, .string C]) ∧ Below w.heap.size w w' := by
  have h78 : (78 : Int) ≤ k := by omega
  clear h
  obtain ⟨W1, hW1⟩ : ∃ W, W = w.alloc (.cells #[.string ⟨#[]⟩, .string ⟨#[]⟩, .string ⟨#[]⟩] 55) := ⟨_, rfl⟩
  have b0 : Below w.heap.size w W1 := by rw [hW1]; exact (Below.refl _ _).alloc (Nat.le_refl _) _
  have x0 : W1.cell? ⟨w.heap.size, 0, none⟩ = some (.string ⟨#[]⟩) := by rw [hW1]; go_simp
  have x1 : W1.cell? ⟨w.heap.size, 1, none⟩ = some (.string ⟨#[]⟩) := by rw [hW1]; go_simp
  have x2 : W1.cell? ⟨w.heap.size, 2, none⟩ = some (.string ⟨#[]⟩) := by rw [hW1]; go_simp
  have y0 : ∀ o, W1.frozen? ⟨w.heap.size, o, none⟩ = false := by rw [hW1]; intro o; go_simp
  have hz : w.heap.size < W1.heap.size := World.block_lt_of_cell? W1 _ x0
  have HS := Lib.hid hS
  clear hS
  go_enter Try.func21, Try.ntmps21
  go_upto_region 1 with fail
  rw [← hW1]
  clear hW1
  go_wp2_with (refine (HS.out _).mono ?_; rintro e w3 ⟨rfl, hb3⟩; obtain ⟨hc, hf⟩ := bcell hb3; have z0 := (hc _ 0 hz).trans x0; have z1 := (hc _ 1 hz).trans x1; have z2 := (hc _ 2 hz).trans x2; have v0 := fun o => (hf _ o hz).trans (y0 o); clear hc hf x0 x1 x2 y0)
  obtain ⟨q0, q1, q2⟩ := set3 (a' := .string A) (b' := .string B) (c' := .string C) z0 z1 z2 v0
  exact bodyPost_ret (v := .agg #[.string A, .string B, .string C]) (by simp [results, Try.results21, go_sem, q0, q1, q2]) rfl ⟨rfl, (((b0.trans (hb3.mono b0.size)).setCell (Nat.le_refl _) _).setCell (Nat.le_refl _) _).setCell (Nat.le_refl _) _⟩
theorem form_at (n : Nat) (h : n < 122) (w : World) : Calls Try.prog 21 #[.int .i64 (n : Int)] w fun e w' => e = .returned (formV n) ∧ Below w.heap.size w w' :=
  match n, h with
  | 0, _ => form_g1 0 (by decide) _ _ _ w (fun W => frm0 W)
  | 1, _ => form_g1 1 (by decide) _ _ _ w (fun W => frm1 W)
  | 2, _ => form_g1 2 (by decide) _ _ _ w (fun W => frm2 W)
  | 3, _ => form_g1 3 (by decide) _ _ _ w (fun W => frm3 W)
  | 4, _ => form_g1 4 (by decide) _ _ _ w (fun W => frm4 W)
  | 5, _ => form_g1 5 (by decide) _ _ _ w (fun W => frm5 W)
  | 6, _ => form_g1 6 (by decide) _ _ _ w (fun W => frm6 W)
  | 7, _ => form_g1 7 (by decide) _ _ _ w (fun W => frm7 W)
  | 8, _ => form_g1 8 (by decide) _ _ _ w (fun W => frm8 W)
  | 9, _ => form_g1 9 (by decide) _ _ _ w (fun W => frm9 W)
  | 10, _ => form_g1 10 (by decide) _ _ _ w (fun W => frm10 W)
  | 11, _ => form_g1 11 (by decide) _ _ _ w (fun W => frm11 W)
  | 12, _ => form_g1 12 (by decide) _ _ _ w (fun W => frm12 W)
  | 13, _ => form_g1 13 (by decide) _ _ _ w (fun W => frm13 W)
  | 14, _ => form_g1 14 (by decide) _ _ _ w (fun W => frm14 W)
  | 15, _ => form_g1 15 (by decide) _ _ _ w (fun W => frm15 W)
  | 16, _ => form_g1 16 (by decide) _ _ _ w (fun W => frm16 W)
  | 17, _ => form_g2 17 (by decide) _ _ _ w (fun W => frm17 W)
  | 18, _ => form_g2 18 (by decide) _ _ _ w (fun W => frm18 W)
  | 19, _ => form_g2 19 (by decide) _ _ _ w (fun W => frm19 W)
  | 20, _ => form_g2 20 (by decide) _ _ _ w (fun W => frm20 W)
  | 21, _ => form_g2 21 (by decide) _ _ _ w (fun W => frm21 W)
  | 22, _ => form_g2 22 (by decide) _ _ _ w (fun W => frm22 W)
  | 23, _ => form_g2 23 (by decide) _ _ _ w (fun W => frm23 W)
  | 24, _ => form_g2 24 (by decide) _ _ _ w (fun W => frm24 W)
  | 25, _ => form_g2 25 (by decide) _ _ _ w (fun W => frm25 W)
  | 26, _ => form_g2 26 (by decide) _ _ _ w (fun W => frm26 W)
  | 27, _ => form_g2 27 (by decide) _ _ _ w (fun W => frm27 W)
  | 28, _ => form_g2 28 (by decide) _ _ _ w (fun W => frm28 W)
  | 29, _ => form_g2 29 (by decide) _ _ _ w (fun W => frm29 W)
  | 30, _ => form_g2 30 (by decide) _ _ _ w (fun W => frm30 W)
  | 31, _ => form_g2 31 (by decide) _ _ _ w (fun W => frm31 W)
  | 32, _ => form_g3 32 (by decide) _ _ _ w (fun W => frm32 W)
  | 33, _ => form_g3 33 (by decide) _ _ _ w (fun W => frm33 W)
  | 34, _ => form_g3 34 (by decide) _ _ _ w (fun W => frm34 W)
  | 35, _ => form_g3 35 (by decide) _ _ _ w (fun W => frm35 W)
  | 36, _ => form_g3 36 (by decide) _ _ _ w (fun W => frm36 W)
  | 37, _ => form_g3 37 (by decide) _ _ _ w (fun W => frm37 W)
  | 38, _ => form_g3 38 (by decide) _ _ _ w (fun W => frm38 W)
  | 39, _ => form_g3 39 (by decide) _ _ _ w (fun W => frm39 W)
  | 40, _ => form_g3 40 (by decide) _ _ _ w (fun W => frm40 W)
  | 41, _ => form_g3 41 (by decide) _ _ _ w (fun W => frm41 W)
  | 42, _ => form_g3 42 (by decide) _ _ _ w (fun W => frm42 W)
  | 43, _ => form_g3 43 (by decide) _ _ _ w (fun W => frm43 W)
  | 44, _ => form_g3 44 (by decide) _ _ _ w (fun W => frm44 W)
  | 45, _ => form_g3 45 (by decide) _ _ _ w (fun W => frm45 W)
  | 46, _ => form_g3 46 (by decide) _ _ _ w (fun W => frm46 W)
  | 47, _ => form_g3 47 (by decide) _ _ _ w (fun W => frm47 W)
  | 48, _ => form_g3 48 (by decide) _ _ _ w (fun W => frm48 W)
  | 49, _ => form_g3 49 (by decide) _ _ _ w (fun W => frm49 W)
  | 50, _ => form_g3 50 (by decide) _ _ _ w (fun W => frm50 W)
  | 51, _ => form_g3 51 (by decide) _ _ _ w (fun W => frm51 W)
  | 52, _ => form_g3 52 (by decide) _ _ _ w (fun W => frm52 W)
  | 53, _ => form_g3 53 (by decide) _ _ _ w (fun W => frm53 W)
  | 54, _ => form_g3 54 (by decide) _ _ _ w (fun W => frm54 W)
  | 55, _ => form_g3 55 (by decide) _ _ _ w (fun W => frm55 W)
  | 56, _ => form_g4 56 (by decide) _ _ _ w (fun W => frm56 W)
  | 57, _ => form_g4 57 (by decide) _ _ _ w (fun W => frm57 W)
  | 58, _ => form_g4 58 (by decide) _ _ _ w (fun W => frm58 W)
  | 59, _ => form_g4 59 (by decide) _ _ _ w (fun W => frm59 W)
  | 60, _ => form_g4 60 (by decide) _ _ _ w (fun W => frm60 W)
  | 61, _ => form_g4 61 (by decide) _ _ _ w (fun W => frm61 W)
  | 62, _ => form_g4 62 (by decide) _ _ _ w (fun W => frm62 W)
  | 63, _ => form_g4 63 (by decide) _ _ _ w (fun W => frm63 W)
  | 64, _ => form_g4 64 (by decide) _ _ _ w (fun W => frm64 W)
  | 65, _ => form_g4 65 (by decide) _ _ _ w (fun W => frm65 W)
  | 66, _ => form_g4 66 (by decide) _ _ _ w (fun W => frm66 W)
  | 67, _ => form_g4 67 (by decide) _ _ _ w (fun W => frm67 W)
  | 68, _ => form_g4 68 (by decide) _ _ _ w (fun W => frm68 W)
  | 69, _ => form_g4 69 (by decide) _ _ _ w (fun W => frm69 W)
  | 70, _ => form_g4 70 (by decide) _ _ _ w (fun W => frm70 W)
  | 71, _ => form_g4 71 (by decide) _ _ _ w (fun W => frm71 W)
  | 72, _ => form_g4 72 (by decide) _ _ _ w (fun W => frm72 W)
  | 73, _ => form_g4 73 (by decide) _ _ _ w (fun W => frm73 W)
  | 74, _ => form_g4 74 (by decide) _ _ _ w (fun W => frm74 W)
  | 75, _ => form_g4 75 (by decide) _ _ _ w (fun W => frm75 W)
  | 76, _ => form_g4 76 (by decide) _ _ _ w (fun W => frm76 W)
  | 77, _ => form_g4 77 (by decide) _ _ _ w (fun W => frm77 W)
  | 78, _ => form_g5 78 (by decide) _ _ _ w (fun W => frm78 W)
  | 79, _ => form_g5 79 (by decide) _ _ _ w (fun W => frm79 W)
  | 80, _ => form_g5 80 (by decide) _ _ _ w (fun W => frm80 W)
  | 81, _ => form_g5 81 (by decide) _ _ _ w (fun W => frm81 W)
  | 82, _ => form_g5 82 (by decide) _ _ _ w (fun W => frm82 W)
  | 83, _ => form_g5 83 (by decide) _ _ _ w (fun W => frm83 W)
  | 84, _ => form_g5 84 (by decide) _ _ _ w (fun W => frm84 W)
  | 85, _ => form_g5 85 (by decide) _ _ _ w (fun W => frm85 W)
  | 86, _ => form_g5 86 (by decide) _ _ _ w (fun W => frm86 W)
  | 87, _ => form_g5 87 (by decide) _ _ _ w (fun W => frm87 W)
  | 88, _ => form_g5 88 (by decide) _ _ _ w (fun W => frm88 W)
  | 89, _ => form_g5 89 (by decide) _ _ _ w (fun W => frm89 W)
  | 90, _ => form_g5 90 (by decide) _ _ _ w (fun W => frm90 W)
  | 91, _ => form_g5 91 (by decide) _ _ _ w (fun W => frm91 W)
  | 92, _ => form_g5 92 (by decide) _ _ _ w (fun W => frm92 W)
  | 93, _ => form_g5 93 (by decide) _ _ _ w (fun W => frm93 W)
  | 94, _ => form_g5 94 (by decide) _ _ _ w (fun W => frm94 W)
  | 95, _ => form_g5 95 (by decide) _ _ _ w (fun W => frm95 W)
  | 96, _ => form_g5 96 (by decide) _ _ _ w (fun W => frm96 W)
  | 97, _ => form_g5 97 (by decide) _ _ _ w (fun W => frm97 W)
  | 98, _ => form_g5 98 (by decide) _ _ _ w (fun W => frm98 W)
  | 99, _ => form_g5 99 (by decide) _ _ _ w (fun W => frm99 W)
  | 100, _ => form_g5 100 (by decide) _ _ _ w (fun W => frm100 W)
  | 101, _ => form_g5 101 (by decide) _ _ _ w (fun W => frm101 W)
  | 102, _ => form_g5 102 (by decide) _ _ _ w (fun W => frm102 W)
  | 103, _ => form_g5 103 (by decide) _ _ _ w (fun W => frm103 W)
  | 104, _ => form_g5 104 (by decide) _ _ _ w (fun W => frm104 W)
  | 105, _ => form_g5 105 (by decide) _ _ _ w (fun W => frm105 W)
  | 106, _ => form_g5 106 (by decide) _ _ _ w (fun W => frm106 W)
  | 107, _ => form_g5 107 (by decide) _ _ _ w (fun W => frm107 W)
  | 108, _ => form_g5 108 (by decide) _ _ _ w (fun W => frm108 W)
  | 109, _ => form_g5 109 (by decide) _ _ _ w (fun W => frm109 W)
  | 110, _ => form_g5 110 (by decide) _ _ _ w (fun W => frm110 W)
  | 111, _ => form_g5 111 (by decide) _ _ _ w (fun W => frm111 W)
  | 112, _ => form_g5 112 (by decide) _ _ _ w (fun W => frm112 W)
  | 113, _ => form_g5 113 (by decide) _ _ _ w (fun W => frm113 W)
  | 114, _ => form_g5 114 (by decide) _ _ _ w (fun W => frm114 W)
  | 115, _ => form_g5 115 (by decide) _ _ _ w (fun W => frm115 W)
  | 116, _ => form_g5 116 (by decide) _ _ _ w (fun W => frm116 W)
  | 117, _ => form_g5 117 (by decide) _ _ _ w (fun W => frm117 W)
  | 118, _ => form_g5 118 (by decide) _ _ _ w (fun W => frm118 W)
  | 119, _ => form_g5 119 (by decide) _ _ _ w (fun W => frm119 W)
  | 120, _ => form_g5 120 (by decide) _ _ _ w (fun W => frm120 W)
  | 121, _ => form_g5 121 (by decide) _ _ _ w (fun W => frm121 W)
  | n + 122, h => absurd h (by omega)
theorem formOf_any (k : Int) (w : World) : Calls Try.prog 21 #[.int .i64 k] w fun e w' => e = .returned (formV k) ∧ Below w.heap.size w w' := by
  by_cases h0 : k < 0
  · have e : formV k = .agg #[.string ⟨#[]⟩, .string ⟨#[]⟩, .string ⟨#[]⟩] := by unfold formV formO; rw [if_neg (by omega)]; rfl
    rw [e]
    exact form_g1 k (by omega) _ _ _ w (fun W => frm_lo k h0 W)
  · by_cases h1 : 121 < k
    · have e : formV k = .agg #[.string ⟨#[]⟩, .string ⟨#[]⟩, .string ⟨#[]⟩] := by unfold formV formO; rw [if_neg (by omega)]; rfl
      rw [e]
      exact form_g5 k (by omega) _ _ _ w (fun W => frm_hi k h1 W)
    · obtain ⟨n, rfl⟩ : ∃ n : Nat, k = (n : Int) := ⟨k.toNat, by omega⟩
      exact form_at n (by omega) w
set_option maxRecDepth 100000 in
theorem belongs_any (k : Int) (c : UInt8) (w : World) : Calls Try.prog 22 #[.int .i64 k, .int .u8 (c.toNat : Int)] w fun e w' => e = .returned (.bool (bel k c)) ∧ Below w.heap.size w w' := by
  have hF := fun W => formOf_any k W
  have hc : ((c.toNat : Int)).toNat.toUInt8 = c := by simp
  obtain ⟨n, hn⟩ : ∃ n, Lib.indexByte (bs (formO k).1).data.toList ((c.toNat : Int)).toNat.toUInt8 = n := ⟨_, rfl⟩
  have hI := fun W => ib (bs (formO k).1) (c.toNat : Int) n hn W
  have hB : Hid (bel k c = decide (0 ≤ n)) := Lib.hid (by
    unfold bel
    rw [Lib.contains_iff_indexByte, ← hn, bs_list, hc])
  rw [hB.out]
  unfold formV at hF
  generalize bs (formO k).1 = A at hF hI
  generalize bs (formO k).2.1 = B at hF
  generalize bs (formO k).2.2 = C at hF
  have hfield : ∀ w, (Instr.field 55 (.agg #[.string A, .string B, .string C]) 0).run Try.prog w = .ok (.string A) w := fun _ => by kernel_rfl
  have HF := Lib.hid hF
  have HI := Lib.hid hI
  clear hF hI hn hc hB
  go_enter Try.func22, Try.ntmps22
  go_wp2_with (first | (go_at_call 21; refine (HF.out _).mono ?_; rintro e w1 ⟨rfl, hb1⟩) | (go_at_call 37; refine (HI.out _).mono ?_; rintro e w2 ⟨rfl, rfl⟩))
  go_ret
  exact ⟨rfl, hb1⟩
end Go.Proofs.Ytpjnjcljaoaceaa
