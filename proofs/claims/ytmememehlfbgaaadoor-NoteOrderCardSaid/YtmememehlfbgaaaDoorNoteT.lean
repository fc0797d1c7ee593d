/- Package note: Text, and the fact told. -/
import Derived.Test.YtmememehlfbgaaaDoorNoteC
import Derived.Lib.QuietBelow
namespace Go.Proofs.YtmememehlfbgaaaDoor
open Go Go.RowKit Go.Sort
set_option linter.unusedVariables false
theorem itoa_any (n : Int) (h0 : -9223372036854775808 ≤ n) (h1 : n ≤ 9223372036854775807) {B : Nat} (w : World) (hG : NGlob B w) :
    Calls Tryd.prog 78 #[.int .i64 n] w fun e w' => e = .returned (.string ⟨(Lib.itoa n).toArray⟩) ∧ Below w.heap.size w w' :=
  (Tryd.strconv_Itoa n h0 h1 w hG.tab.here).mono fun _ _ ⟨he, k, os, hw⟩ => ⟨he, by rw [hw]; exact Lib.below_grow _ _ (Nat.le_refl _) _ _⟩
/-- the head of a message's text -/
def noteH (f q1 q2 wd : ByteArray) : ByteArray := f ++ ⟨#[58]⟩ ++ q1 ++ ⟨#[58]⟩ ++ q2 ++ ⟨#[58, 32]⟩ ++ wd
def noteS (f q1 q2 wd t : ByteArray) : ByteArray := if t.size = 0 then noteH f q1 q2 wd else noteH f q1 q2 wd ++ (⟨#[32]⟩ ++ t)
set_option maxRecDepth 100000 in
set_option maxHeartbeats 4000000 in
theorem text_yes (f t q1 q2 : ByteArray) (l c : Int) (e : Nat) (hf : f.size ≤ 60) (ht : t.size ≤ 200) (hl : 1 ≤ l) (hl2 : l ≤ 16000) (hc : 1 ≤ c) (hc2 : c ≤ 16001) (he : e < 23) (hq1 : Hid (q1 = ⟨(Lib.itoa l).toArray⟩)) (hq2 : Hid (q2 = ⟨(Lib.itoa c).toArray⟩)) (s1 : q1.size ≤ 20) (s2 : q2.size ≤ 20)
    (hk : Hid (noteChk f.data.toList l c e t.data.toList = 0)) {B : Nat} (w : World) (hG : NGlob B w) (t0 : ¬ t.toList = []) (t1 : t.toList.isEmpty = false) :
    Calls Tryd.prog 41 #[.agg #[.string f, .int .i64 l, .int .i64 c, .int .i64 e, .string t]] w fun e' w' => e' = .returned (.tuple #[.string (noteH f q1 q2 (wordB e) ++ (⟨#[32]⟩ ++ t)), .int .i64 0]) ∧ Below w.heap.size w w' := by
  have HG := Lib.hid hG
  clear hG
  have s3 : (wordB e).size ≤ 8 := by have h := wordsL_le e; have h2 := len_toList (wordB e); have h3 : (wordB e).data.toList = wordsL.getD e [] := rfl; rw [h3] at h2; omega
  generalize hwd : wordB e = wd at s3 ⊢
  have HWD := Lib.hid hwd
  clear hwd
  go_enter Tryd.func41, Tryd.ntmps41
  go_wp2_with fail
  refine (chk_any f t l c e (by omega) (by omega) _ (HG.out.here ((Below.refl _ _).alloc (Nat.le_refl _) _))).mono ?_
  rintro e' w1 ⟨rfl, hb1⟩
  rw [hk.out]
  obtain ⟨hc1, hf1⟩ := bcell hb1
  have z1 : w.heap.size < w1.heap.size := bsize hb1 (by first | omega | (simp <;> omega))
  have G1 := (HG.out.here ((Below.refl _ _).alloc (Nat.le_refl _) _)).here hb1
  have b1 : Below w.heap.size w w1 := ((Below.refl _ _).alloc (Nat.le_refl _) _).trans (hb1.mono (by simp))
  have x0 : w1.cell? ⟨w.heap.size, 0, none⟩ = some (.string f) := by rw [hc1 _ _ (by simp)]; go_simp
  have x1 : w1.cell? ⟨w.heap.size, 1, none⟩ = some (.int .i64 l) := by rw [hc1 _ _ (by simp)]; go_simp
  have x2 : w1.cell? ⟨w.heap.size, 2, none⟩ = some (.int .i64 c) := by rw [hc1 _ _ (by simp)]; go_simp
  have x3 : w1.cell? ⟨w.heap.size, 3, none⟩ = some (.int .i64 e) := by rw [hc1 _ _ (by simp)]; go_simp
  have x4 : w1.cell? ⟨w.heap.size, 4, none⟩ = some (.string t) := by rw [hc1 _ _ (by simp)]; go_simp
  clear hc1 hf1 hb1
  go_wp2_with fail
  have k0 := cell_regrown x0
  have k1 := cell_regrown x1
  have k2 := cell_regrown x2
  have k3 := cell_regrown x3
  have cI1 : ∀ d os, Calls Tryd.prog 78 #[.int .i64 l] (grow (redrawn w1 d) os) fun e w'' => e = .returned (.string q1) ∧ ∃ p : Regrown, w'' = grow (redrawn w1 p.d) p.os := fun d os => by rw [hq1.out]; exact Calls.regrown_of (itoa_any l (by omega) (by omega) _ (G1.here (below_regrown w1 d os)))
  have cI2 : ∀ d os, Calls Tryd.prog 78 #[.int .i64 c] (grow (redrawn w1 d) os) fun e w'' => e = .returned (.string q2) ∧ ∃ p : Regrown, w'' = grow (redrawn w1 p.d) p.os := fun d os => by rw [hq2.out]; exact Calls.regrown_of (itoa_any c (by omega) (by omega) _ (G1.here (below_regrown w1 d os)))
  have cN : ∀ d os, Calls Tryd.prog 79 #[.int .i64 e] (grow (redrawn w1 d) os) fun e w'' => e = .returned (.string wd) ∧ ∃ p : Regrown, w'' = grow (redrawn w1 p.d) p.os := fun d os => by rw [← HWD.out]; exact Calls.regrown_of ((name_in e he _ (G1.here (below_regrown w1 d os))).mono fun _ _ ⟨a, b⟩ => ⟨a, b ▸ Below.refl _ _⟩)
  have n1 : ¬ 9223372036854775807 < f.size + 1 := by omega
  have n2 : ¬ 9223372036854775807 < f.size + 1 + q1.size := by omega
  have n3 : ¬ 9223372036854775807 < f.size + 1 + q1.size + 1 := by omega
  have n4 : ¬ 9223372036854775807 < f.size + 1 + q1.size + 1 + q2.size := by omega
  have n5 : ¬ 9223372036854775807 < f.size + 1 + q1.size + 1 + q2.size + 2 := by omega
  have n6 : ¬ 9223372036854775807 < f.size + 1 + q1.size + 1 + q2.size + 2 + wd.size := by omega
  refine wp_region_quiet_below (by kernel_rfl) (by kernel_rfl) ?_
  repeat (quiet_step (first | (with_reducible exact cI1 _ _) | (with_reducible exact cI2 _ _) | (with_reducible exact cN _ _)))
  refine wpQuiet_nil ?_
  intro _ hw'
  obtain ⟨⟨dq, osq⟩, hw''⟩ := hw'
  subst hw''
  have k4 := cell_regrown x4 dq osq
  clear k0 k1 k2 k3 cI1 cI2 cN
  go_wp2_with fail
  go_ret2
  exact ⟨rfl, b1.trans ((below_regrown w1 dq osq).mono (by omega))⟩
set_option maxRecDepth 100000 in
set_option maxHeartbeats 4000000 in
theorem text_no (f t q1 q2 : ByteArray) (l c : Int) (e : Nat) (hf : f.size ≤ 60) (ht : t.size ≤ 200) (hl : 1 ≤ l) (hl2 : l ≤ 16000) (hc : 1 ≤ c) (hc2 : c ≤ 16001) (he : e < 23) (hq1 : Hid (q1 = ⟨(Lib.itoa l).toArray⟩)) (hq2 : Hid (q2 = ⟨(Lib.itoa c).toArray⟩)) (s1 : q1.size ≤ 20) (s2 : q2.size ≤ 20)
    (hk : Hid (noteChk f.data.toList l c e t.data.toList = 0)) {B : Nat} (w : World) (hG : NGlob B w) (t0 : t.toList = []) (t1 : t.toList.isEmpty = true) :
    Calls Tryd.prog 41 #[.agg #[.string f, .int .i64 l, .int .i64 c, .int .i64 e, .string t]] w fun e' w' => e' = .returned (.tuple #[.string (noteH f q1 q2 (wordB e)), .int .i64 0]) ∧ Below w.heap.size w w' := by
  have HG := Lib.hid hG
  clear hG
  have s3 : (wordB e).size ≤ 8 := by have h := wordsL_le e; have h2 := len_toList (wordB e); have h3 : (wordB e).data.toList = wordsL.getD e [] := rfl; rw [h3] at h2; omega
  generalize hwd : wordB e = wd at s3 ⊢
  have HWD := Lib.hid hwd
  clear hwd
  go_enter Tryd.func41, Tryd.ntmps41
  go_wp2_with fail
  refine (chk_any f t l c e (by omega) (by omega) _ (HG.out.here ((Below.refl _ _).alloc (Nat.le_refl _) _))).mono ?_
  rintro e' w1 ⟨rfl, hb1⟩
  rw [hk.out]
  obtain ⟨hc1, hf1⟩ := bcell hb1
  have z1 : w.heap.size < w1.heap.size := bsize hb1 (by first | omega | (simp <;> omega))
  have G1 := (HG.out.here ((Below.refl _ _).alloc (Nat.le_refl _) _)).here hb1
  have b1 : Below w.heap.size w w1 := ((Below.refl _ _).alloc (Nat.le_refl _) _).trans (hb1.mono (by simp))
  have x0 : w1.cell? ⟨w.heap.size, 0, none⟩ = some (.string f) := by rw [hc1 _ _ (by simp)]; go_simp
  have x1 : w1.cell? ⟨w.heap.size, 1, none⟩ = some (.int .i64 l) := by rw [hc1 _ _ (by simp)]; go_simp
  have x2 : w1.cell? ⟨w.heap.size, 2, none⟩ = some (.int .i64 c) := by rw [hc1 _ _ (by simp)]; go_simp
  have x3 : w1.cell? ⟨w.heap.size, 3, none⟩ = some (.int .i64 e) := by rw [hc1 _ _ (by simp)]; go_simp
  have x4 : w1.cell? ⟨w.heap.size, 4, none⟩ = some (.string t) := by rw [hc1 _ _ (by simp)]; go_simp
  clear hc1 hf1 hb1
  go_wp2_with fail
  have k0 := cell_regrown x0
  have k1 := cell_regrown x1
  have k2 := cell_regrown x2
  have k3 := cell_regrown x3
  have cI1 : ∀ d os, Calls Tryd.prog 78 #[.int .i64 l] (grow (redrawn w1 d) os) fun e w'' => e = .returned (.string q1) ∧ ∃ p : Regrown, w'' = grow (redrawn w1 p.d) p.os := fun d os => by rw [hq1.out]; exact Calls.regrown_of (itoa_any l (by omega) (by omega) _ (G1.here (below_regrown w1 d os)))
  have cI2 : ∀ d os, Calls Tryd.prog 78 #[.int .i64 c] (grow (redrawn w1 d) os) fun e w'' => e = .returned (.string q2) ∧ ∃ p : Regrown, w'' = grow (redrawn w1 p.d) p.os := fun d os => by rw [hq2.out]; exact Calls.regrown_of (itoa_any c (by omega) (by omega) _ (G1.here (below_regrown w1 d os)))
  have cN : ∀ d os, Calls Tryd.prog 79 #[.int .i64 e] (grow (redrawn w1 d) os) fun e w'' => e = .returned (.string wd) ∧ ∃ p : Regrown, w'' = grow (redrawn w1 p.d) p.os := fun d os => by rw [← HWD.out]; exact Calls.regrown_of ((name_in e he _ (G1.here (below_regrown w1 d os))).mono fun _ _ ⟨a, b⟩ => ⟨a, b ▸ Below.refl _ _⟩)
  have n1 : ¬ 9223372036854775807 < f.size + 1 := by omega
  have n2 : ¬ 9223372036854775807 < f.size + 1 + q1.size := by omega
  have n3 : ¬ 9223372036854775807 < f.size + 1 + q1.size + 1 := by omega
  have n4 : ¬ 9223372036854775807 < f.size + 1 + q1.size + 1 + q2.size := by omega
  have n5 : ¬ 9223372036854775807 < f.size + 1 + q1.size + 1 + q2.size + 2 := by omega
  have n6 : ¬ 9223372036854775807 < f.size + 1 + q1.size + 1 + q2.size + 2 + wd.size := by omega
  refine wp_region_quiet_below (by kernel_rfl) (by kernel_rfl) ?_
  repeat (quiet_step (first | (with_reducible exact cI1 _ _) | (with_reducible exact cI2 _ _) | (with_reducible exact cN _ _)))
  refine wpQuiet_nil ?_
  intro _ hw'
  obtain ⟨⟨dq, osq⟩, hw''⟩ := hw'
  subst hw''
  have k4 := cell_regrown x4 dq osq
  clear k0 k1 k2 k3 cI1 cI2 cN
  go_wp2_with fail
  go_ret2
  exact ⟨rfl, b1.trans ((below_regrown w1 dq osq).mono (by omega))⟩
set_option maxHeartbeats 400000 in
theorem text_err (f t : ByteArray) (l c e r : Int) (hf : f.size ≤ 9223372036854775807) (ht : t.size ≤ 9223372036854775807) (hk : Hid (noteChk f.data.toList l c e t.data.toList = r)) {B : Nat} (w : World) (hG : NGlob B w) (r0 : (r == 0) = false) (r1 : (r != 0) = true) :
    Calls Tryd.prog 41 #[.agg #[.string f, .int .i64 l, .int .i64 c, .int .i64 e, .string t]] w fun e' w' => e' = .returned (.tuple #[.string ⟨#[]⟩, .int .i64 r]) ∧ Below w.heap.size w w' := by
  have HG := Lib.hid hG
  clear hG
  go_enter Tryd.func41, Tryd.ntmps41
  go_wp2_with fail
  refine (chk_any f t l c e hf ht _ (HG.out.here ((Below.refl _ _).alloc (Nat.le_refl _) _))).mono ?_
  rintro e' w1 ⟨rfl, hb1⟩
  rw [hk.out]
  go_wp2_with fail
  go_ret2
  exact ⟨rfl, ((Below.refl _ _).alloc (Nat.le_refl _) _).trans (hb1.mono (by simp))⟩
theorem itoa_3 : Lib.itoa 3 = [51] := by
  unfold Lib.itoa; rw [if_neg (by decide), Lib.decDigits]; rfl
theorem itoa_7 : Lib.itoa 7 = [55] := by
  unfold Lib.itoa; rw [if_neg (by decide), Lib.decDigits]; rfl
set_option maxHeartbeats 400000 in
theorem told_ok {B : Nat} (w : World) (hG : NGlob B w) : Calls Tryd.prog 14 #[] w fun e' w' => e' = .returned (.bool true) ∧ Below w.heap.size w w' := by
  have h1 := @text_yes ⟨#[97, 46, 109, 119]⟩ ⟨#[99, 110, 116]⟩ ⟨#[51]⟩ ⟨#[55]⟩ 3 7 7 (by decide) (by decide) (by decide) (by decide) (by decide) (by decide) (by decide) (Lib.hid (by rw [itoa_3])) (Lib.hid (by rw [itoa_7])) (by decide) (by decide) (Lib.hid (by decide +kernel)) B w hG (by decide +kernel) (by decide +kernel)
  have e1 : noteH ⟨#[97, 46, 109, 119]⟩ ⟨#[51]⟩ ⟨#[55]⟩ (wordB 7) ++ (⟨#[32]⟩ ++ ⟨#[99, 110, 116]⟩) = ⟨#[97, 46, 109, 119, 58, 51, 58, 55, 58, 32, 117, 110, 107, 110, 111, 119, 110, 32, 99, 110, 116]⟩ := by decide +kernel
  rw [e1] at h1
  clear e1 hG
  go_enter Tryd.func14, Tryd.ntmps14
  go_wp2_with fail
  refine h1.mono ?_
  rintro e' w1 ⟨rfl, hb1⟩
  go_wp2_with fail
  go_ret
  exact ⟨rfl, hb1⟩
end Go.Proofs.YtmememehlfbgaaaDoor
