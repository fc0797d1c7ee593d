/- The reference's NoteText. -/
import Derived.Test.YtmeofhjnckgcpaaDoorNoteXa
namespace Go.Proofs.YtmeofhjnckgcpaaDoor
open Go Go.RowKit Go.Sort
set_option linter.unusedVariables false
set_option maxRecDepth 100000 in
set_option maxHeartbeats 1000000 in
theorem rtext_yes (f t q1 q2 : ByteArray) (l c : Int) (e : Nat) (hf : f.size ≤ 60) (ht : t.size ≤ 200) (hl : 1 ≤ l) (hl2 : l ≤ 16000) (hc : 1 ≤ c) (hc2 : c ≤ 16001) (he : e < 23) (hq1 : Hid (q1 = ⟨(Lib.itoa l).toArray⟩)) (hq2 : Hid (q2 = ⟨(Lib.itoa c).toArray⟩)) (s1 : q1.size ≤ 20) (s2 : q2.size ≤ 20)
    (w : World)  (t0 : ¬ t.toList = []) (t1 : t.toList.isEmpty = false) :
    Calls Tryd.prog 18 #[.agg #[.string f, .int .i64 l, .int .i64 c, .int .i64 e, .string t]] w fun e' w' => e' = .returned (.string (noteH f q1 q2 (wordB e) ++ (⟨#[32]⟩ ++ t))) ∧ Below w.heap.size w w' := by
  have s3 : (wordB e).size ≤ 8 := by have h := wordsL_le e; have h2 := len_toList (wordB e); have h3 : (wordB e).data.toList = wordsL.getD e [] := rfl; rw [h3] at h2; omega
  generalize hwd : wordB e = wd at s3 ⊢
  have HWD := Lib.hid hwd
  clear hwd
  go_enter Tryd.func18, Tryd.ntmps18
  go_wp2_with fail
  obtain ⟨w1, hw1⟩ : ∃ w1 : World, w1 = w.alloc (Obj.cells #[Value.string f, Value.int IntKind.i64 l, Value.int IntKind.i64 c, Value.int IntKind.i64 e, Value.string t] 24) := ⟨_, rfl⟩
  have b1 : Below w.heap.size w w1 := by rw [hw1]; exact (Below.refl _ _).alloc (Nat.le_refl _) _
  have x0 : w1.cell? ⟨w.heap.size, 0, none⟩ = some (.string f) := by rw [hw1]; go_simp
  have x1 : w1.cell? ⟨w.heap.size, 1, none⟩ = some (.int .i64 l) := by rw [hw1]; go_simp
  have x2 : w1.cell? ⟨w.heap.size, 2, none⟩ = some (.int .i64 c) := by rw [hw1]; go_simp
  have x3 : w1.cell? ⟨w.heap.size, 3, none⟩ = some (.int .i64 e) := by rw [hw1]; go_simp
  have x4 : w1.cell? ⟨w.heap.size, 4, none⟩ = some (.string t) := by rw [hw1]; go_simp
  rw [← hw1]
  clear hw1
  have k0 := cell_regrown x0
  have k1 := cell_regrown x1
  have k2 := cell_regrown x2
  have k3 := cell_regrown x3
  have cI1 : ∀ d os, Calls Tryd.prog 39 #[.int .i64 l] (grow (redrawn w1 d) os) fun e w'' => e = .returned (.string q1) ∧ ∃ p : Regrown, w'' = grow (redrawn w1 p.d) p.os := fun d os => by rw [hq1.out]; exact Calls.regrown_of (decimal_itoa l (by omega) (by omega) _)
  have cI2 : ∀ d os, Calls Tryd.prog 39 #[.int .i64 c] (grow (redrawn w1 d) os) fun e w'' => e = .returned (.string q2) ∧ ∃ p : Regrown, w'' = grow (redrawn w1 p.d) p.os := fun d os => by rw [hq2.out]; exact Calls.regrown_of (decimal_itoa c (by omega) (by omega) _)
  have cN : ∀ d os, Calls Tryd.prog 16 #[.int .i64 e] (grow (redrawn w1 d) os) fun e w'' => e = .returned (.string wd) ∧ ∃ p : Regrown, w'' = grow (redrawn w1 p.d) p.os := fun d os => by rw [← HWD.out]; exact Calls.regrown_of (noteWord_in e he _)
  have n1 : ¬ 9223372036854775807 < f.size + 1 := by omega
  have n2 : ¬ 9223372036854775807 < f.size + 1 + q1.size := by omega
  have n3 : ¬ 9223372036854775807 < f.size + 1 + q1.size + 1 := by omega
  have n4 : ¬ 9223372036854775807 < f.size + 1 + q1.size + 1 + q2.size := by omega
  have n5 : ¬ 9223372036854775807 < f.size + 1 + q1.size + 1 + q2.size + 2 := by omega
  have n6 : ¬ 9223372036854775807 < f.size + 1 + q1.size + 1 + q2.size + 2 + wd.size := by omega
  refine wp_region_quiet_below (by kernel_rfl) (by kernel_rfl) ?_
  repeat (quiet_step (first | (with_reducible exact cI1 _ _) | (with_reducible exact cI2 _ _) | (with_reducible exact cN _ _)))
  refine wpQuiet_nil ?_
  intro _ hw'
  obtain ⟨⟨dq, osq⟩, hw''⟩ := hw'
  subst hw''
  have k4 := cell_regrown x4 dq osq
  clear k0 k1 k2 k3 cI1 cI2 cN
  go_wp2_with fail
  go_ret
  exact ⟨rfl, b1.trans ((below_regrown w1 dq osq).mono b1.size)⟩
set_option maxRecDepth 100000 in
set_option maxHeartbeats 1000000 in
theorem rtext_no (f t q1 q2 : ByteArray) (l c : Int) (e : Nat) (hf : f.size ≤ 60) (ht : t.size ≤ 200) (hl : 1 ≤ l) (hl2 : l ≤ 16000) (hc : 1 ≤ c) (hc2 : c ≤ 16001) (he : e < 23) (hq1 : Hid (q1 = ⟨(Lib.itoa l).toArray⟩)) (hq2 : Hid (q2 = ⟨(Lib.itoa c).toArray⟩)) (s1 : q1.size ≤ 20) (s2 : q2.size ≤ 20)
    (w : World)  (t0 : t.toList = []) (t1 : t.toList.isEmpty = true) :
    Calls Tryd.prog 18 #[.agg #[.string f, .int .i64 l, .int .i64 c, .int .i64 e, .string t]] w fun e' w' => e' = .returned (.string (noteH f q1 q2 (wordB e))) ∧ Below w.heap.size w w' := by
  have s3 : (wordB e).size ≤ 8 := by have h := wordsL_le e; have h2 := len_toList (wordB e); have h3 : (wordB e).data.toList = wordsL.getD e [] := rfl; rw [h3] at h2; omega
  generalize hwd : wordB e = wd at s3 ⊢
  have HWD := Lib.hid hwd
  clear hwd
  go_enter Tryd.func18, Tryd.ntmps18
  go_wp2_with fail
  obtain ⟨w1, hw1⟩ : ∃ w1 : World, w1 = w.alloc (Obj.cells #[Value.string f, Value.int IntKind.i64 l, Value.int IntKind.i64 c, Value.int IntKind.i64 e, Value.string t] 24) := ⟨_, rfl⟩
  have b1 : Below w.heap.size w w1 := by rw [hw1]; exact (Below.refl _ _).alloc (Nat.le_refl _) _
  have x0 : w1.cell? ⟨w.heap.size, 0, none⟩ = some (.string f) := by rw [hw1]; go_simp
  have x1 : w1.cell? ⟨w.heap.size, 1, none⟩ = some (.int .i64 l) := by rw [hw1]; go_simp
  have x2 : w1.cell? ⟨w.heap.size, 2, none⟩ = some (.int .i64 c) := by rw [hw1]; go_simp
  have x3 : w1.cell? ⟨w.heap.size, 3, none⟩ = some (.int .i64 e) := by rw [hw1]; go_simp
  have x4 : w1.cell? ⟨w.heap.size, 4, none⟩ = some (.string t) := by rw [hw1]; go_simp
  rw [← hw1]
  clear hw1
  have k0 := cell_regrown x0
  have k1 := cell_regrown x1
  have k2 := cell_regrown x2
  have k3 := cell_regrown x3
  have cI1 : ∀ d os, Calls Tryd.prog 39 #[.int .i64 l] (grow (redrawn w1 d) os) fun e w'' => e = .returned (.string q1) ∧ ∃ p : Regrown, w'' = grow (redrawn w1 p.d) p.os := fun d os => by rw [hq1.out]; exact Calls.regrown_of (decimal_itoa l (by omega) (by omega) _)
  have cI2 : ∀ d os, Calls Tryd.prog 39 #[.int .i64 c] (grow (redrawn w1 d) os) fun e w'' => e = .returned (.string q2) ∧ ∃ p : Regrown, w'' = grow (redrawn w1 p.d) p.os := fun d os => by rw [hq2.out]; exact Calls.regrown_of (decimal_itoa c (by omega) (by omega) _)
  have cN : ∀ d os, Calls Tryd.prog 16 #[.int .i64 e] (grow (redrawn w1 d) os) fun e w'' => e = .returned (.string wd) ∧ ∃ p : Regrown, w'' = grow (redrawn w1 p.d) p.os := fun d os => by rw [← HWD.out]; exact Calls.regrown_of (noteWord_in e he _)
  have n1 : ¬ 9223372036854775807 < f.size + 1 := by omega
  have n2 : ¬ 9223372036854775807 < f.size + 1 + q1.size := by omega
  have n3 : ¬ 9223372036854775807 < f.size + 1 + q1.size + 1 := by omega
  have n4 : ¬ 9223372036854775807 < f.size + 1 + q1.size + 1 + q2.size := by omega
  have n5 : ¬ 9223372036854775807 < f.size + 1 + q1.size + 1 + q2.size + 2 := by omega
  have n6 : ¬ 9223372036854775807 < f.size + 1 + q1.size + 1 + q2.size + 2 + wd.size := by omega
  refine wp_region_quiet_below (by kernel_rfl) (by kernel_rfl) ?_
  repeat (quiet_step (first | (with_reducible exact cI1 _ _) | (with_reducible exact cI2 _ _) | (with_reducible exact cN _ _)))
  refine wpQuiet_nil ?_
  intro _ hw'
  obtain ⟨⟨dq, osq⟩, hw''⟩ := hw'
  subst hw''
  have k4 := cell_regrown x4 dq osq
  clear k0 k1 k2 k3 cI1 cI2 cN
  go_wp2_with fail
  go_ret
  exact ⟨rfl, b1.trans ((below_regrown w1 dq osq).mono b1.size)⟩
end Go.Proofs.YtmeofhjnckgcpaaDoor
