/- The law NoteChecks: its walk. -/
import Derived.Test.YtmeofhjnckgcpaaDoorNoteX
namespace Go.Proofs.YtmeofhjnckgcpaaDoor
open Go Go.RowKit Go.Sort
set_option linter.unusedVariables false
/-- what note.Text and the reference's NoteText do of a message: the same text where it is valid -/
theorem texts_ok (f t : ByteArray) (l c e : Int) (hf : f.size ≤ 9223372036854775807) (ht : t.size ≤ 9223372036854775807) (h0 : noteChk f.data.toList l c e t.data.toList = 0) :
    ∃ S : ByteArray, (∀ (B : Nat) (w : World), NGlob B w → Calls Tryd.prog 11 #[.agg #[.string f, .int .i64 l, .int .i64 c, .int .i64 e, .string t]] w fun e' w' => e' = .returned (.tuple #[.string S, .int .i64 0]) ∧ Below w.heap.size w w') ∧
      (∀ w : World, Calls Tryd.prog 18 #[.agg #[.string f, .int .i64 l, .int .i64 c, .int .i64 e, .string t]] w fun e' w' => e' = .returned (.string S) ∧ Below w.heap.size w w') := by
  have hk := h0
  unfold noteChk at h0
  rw [len_toList] at h0
  split at h0
  · rename_i hfile
    split at h0
    · rename_i hr
      split at h0
      · rename_i hw
        obtain ⟨l1, l2, c1, c2, e1, e2⟩ := hr
        have hf60 : f.size ≤ 60 := by
          unfold fileB at hfile
          rw [len_toList] at hfile
          simp only [Bool.and_eq_true, decide_eq_true_eq] at hfile
          exact hfile.1.1.2
        obtain ⟨n, rfl⟩ : ∃ n : Nat, e = n := ⟨e.toNat, by omega⟩
        have q1 := itoa_size l (by omega) (by omega)
        have q2 := itoa_size c (by omega) (by omega)
        by_cases hz : t.toList = []
        · have hz2 : t.toList.isEmpty = true := by rw [hz]; rfl
          exact ⟨_, fun B w hG => text_no f t _ _ l c n hf60 hw.1 l1 l2 c1 c2 (by omega) (Lib.hid rfl) (Lib.hid rfl) q1 q2 hk w hG hz hz2,
            fun w => rtext_no f t _ _ l c n hf60 hw.1 l1 l2 c1 c2 (by omega) (Lib.hid rfl) (Lib.hid rfl) q1 q2 w hz hz2⟩
        · have hz2 : t.toList.isEmpty = false := by simpa using hz
          exact ⟨_, fun B w hG => text_yes f t _ _ l c n hf60 hw.1 l1 l2 c1 c2 (by omega) (Lib.hid rfl) (Lib.hid rfl) q1 q2 hk w hG hz hz2,
            fun w => rtext_yes f t _ _ l c n hf60 hw.1 l1 l2 c1 c2 (by omega) (Lib.hid rfl) (Lib.hid rfl) q1 q2 w hz hz2⟩
      · exact absurd h0 (by decide)
    · exact absurd h0 (by decide)
  · exact absurd h0 (by decide)
theorem noteWord_bel (e : Int) (w : World) : Calls Tryd.prog 16 #[.int .i64 e] w fun e' w' => e' = .returned (.string (wordOf e)) ∧ Below w.heap.size w w' :=
  (noteWord_any e w).mono fun _ _ ⟨a, b⟩ => ⟨a, by subst b; exact Below.refl _ _⟩
theorem name_bel (e : Int) {B : Nat} (w : World) (hG : NGlob B w) : Calls Tryd.prog 15 #[.int .i64 e] w fun e' w' => e' = .returned (.string (wordOf e)) ∧ Below w.heap.size w w' :=
  (name_any e w hG).mono fun _ _ ⟨a, b⟩ => ⟨a, by subst b; exact Below.refl _ _⟩
set_option maxRecDepth 100000 in
set_option maxHeartbeats 1000000 in
theorem checks_ok (f t : ByteArray) (l c e : Int) (hf : f.size ≤ 9223372036854775807) (ht : t.size ≤ 9223372036854775807) {B : Nat} (w : World) (hG : NGlob B w) (hk : Hid (noteChk f.data.toList l c e t.data.toList = 0)) :
    Calls Tryd.prog 3 #[.agg #[.string f, .int .i64 l, .int .i64 c, .int .i64 e, .string t]] w fun e' w' => e' = .returned (.bool true) ∧ Below w.heap.size w w' := by
  have HG := Lib.hid hG
  clear hG
  obtain ⟨S, hS1, hS2⟩ := texts_ok f t l c e hf ht hk.out
  have HS1 := Lib.hid hS1
  have HS2 := Lib.hid hS2
  clear hS1 hS2
  go_enter Tryd.func3, Tryd.ntmps3
  go_wp2_with fail
  refine (flt_any f t l c e hf ht _).mono ?_
  rintro e' w1 ⟨rfl, hb1⟩
  rw [hk.out]
  obtain ⟨hc1, hf1⟩ := bcell hb1
  have G1 := (HG.out.here ((Below.refl _ _).alloc (Nat.le_refl _) _)).here hb1
  have b1 : Below w.heap.size w w1 := ((Below.refl _ _).alloc (Nat.le_refl _) _).trans (hb1.mono (by simp))
  have x0 : w1.cell? ⟨w.heap.size, 0, none⟩ = some (.string f) := by rw [hc1 _ _ (by simp)]; go_simp
  have x1 : w1.cell? ⟨w.heap.size, 1, none⟩ = some (.int .i64 l) := by rw [hc1 _ _ (by simp)]; go_simp
  have x2 : w1.cell? ⟨w.heap.size, 2, none⟩ = some (.int .i64 c) := by rw [hc1 _ _ (by simp)]; go_simp
  have x3 : w1.cell? ⟨w.heap.size, 3, none⟩ = some (.int .i64 e) := by rw [hc1 _ _ (by simp)]; go_simp
  have x4 : w1.cell? ⟨w.heap.size, 4, none⟩ = some (.string t) := by rw [hc1 _ _ (by simp)]; go_simp
  clear hc1 hf1 hb1
  go_wp2_with fail
  refine (HS1.out _ _ G1).mono ?_
  rintro e' w2 ⟨rfl, hb2⟩
  obtain ⟨hc2, hf2⟩ := bcell hb2
  have z1 := World.block_lt_of_cell? w1 _ x0
  have G2 := G1.here hb2
  have b2 : Below w.heap.size w w2 := b1.trans (hb2.mono b1.size)
  have y0 : w2.cell? ⟨w.heap.size, 0, none⟩ = some (.string f) := by rw [hc2 _ _ z1]; exact x0
  have y1 : w2.cell? ⟨w.heap.size, 1, none⟩ = some (.int .i64 l) := by rw [hc2 _ _ z1]; exact x1
  have y2 : w2.cell? ⟨w.heap.size, 2, none⟩ = some (.int .i64 c) := by rw [hc2 _ _ z1]; exact x2
  have y3 : w2.cell? ⟨w.heap.size, 3, none⟩ = some (.int .i64 e) := by rw [hc2 _ _ z1]; exact x3
  have y4 : w2.cell? ⟨w.heap.size, 4, none⟩ = some (.string t) := by rw [hc2 _ _ z1]; exact x4
  clear hc2 hf2 hb2 x0 x1 x2 x3 x4 z1
  go_wp2_with fail
  have k0 := cell_regrown y0
  have k1 := cell_regrown y1
  have k2 := cell_regrown y2
  have k3 := cell_regrown y3
  have k4 := cell_regrown y4
  obtain ⟨bf, hbf⟩ : ∃ b, b = fileB f.data.toList := ⟨_, rfl⟩
  have HBF := Lib.hid hbf
  obtain ⟨wd, hwd⟩ : ∃ b, b = wordOf e := ⟨_, rfl⟩
  have HWD := Lib.hid hwd
  clear hbf hwd
  have cT : ∀ d os, Calls Tryd.prog 12 #[] (grow (redrawn w2 d) os) fun e w'' => e = .returned (.bool true) ∧ ∃ p : Regrown, w'' = grow (redrawn w2 p.d) p.os := fun d os => Calls.regrown_of (told_ok _ (G2.here (below_regrown w2 d os)))
  have cF : ∀ d os, Calls Tryd.prog 13 #[.string f] (grow (redrawn w2 d) os) fun e w'' => e = .returned (.bool bf) ∧ ∃ p : Regrown, w'' = grow (redrawn w2 p.d) p.os := fun d os => by rw [HBF.out]; exact Calls.regrown_of (file_any f hf _)
  have cR : ∀ d os, Calls Tryd.prog 14 #[.string f] (grow (redrawn w2 d) os) fun e w'' => e = .returned (.bool bf) ∧ ∃ p : Regrown, w'' = grow (redrawn w2 p.d) p.os := fun d os => by rw [HBF.out]; exact Calls.regrown_of (fileName_any f hf _)
  have cN : ∀ d os, Calls Tryd.prog 15 #[.int .i64 e] (grow (redrawn w2 d) os) fun e w'' => e = .returned (.string wd) ∧ ∃ p : Regrown, w'' = grow (redrawn w2 p.d) p.os := fun d os => by rw [HWD.out]; exact Calls.regrown_of (name_bel e _ (G2.here (below_regrown w2 d os)))
  have cW : ∀ d os, Calls Tryd.prog 16 #[.int .i64 e] (grow (redrawn w2 d) os) fun e w'' => e = .returned (.string wd) ∧ ∃ p : Regrown, w'' = grow (redrawn w2 p.d) p.os := fun d os => by rw [HWD.out]; exact Calls.regrown_of (noteWord_bel e _)
  have cC : ∀ d os, Calls Tryd.prog 17 #[.agg #[.string f, .int .i64 l, .int .i64 c, .int .i64 e, .string t]] (grow (redrawn w2 d) os) fun e w'' => e = .returned (.int .i64 0) ∧ ∃ p : Regrown, w'' = grow (redrawn w2 p.d) p.os := fun d os => by rw [← hk.out]; exact Calls.regrown_of (chk_any f t l c e hf ht _ (G2.here (below_regrown w2 d os)))
  refine wp_region_quiet_below (by kernel_rfl) (by kernel_rfl) ?_
  repeat (quiet_step (first | (with_reducible exact cT _ _) | (with_reducible exact cF _ _) | (with_reducible exact cR _ _) | (with_reducible exact cN _ _) | (with_reducible exact cW _ _) | (with_reducible exact cC _ _)))
  refine wpQuiet_nil ?_
  intro _ hw'
  obtain ⟨⟨dq, osq⟩, hw''⟩ := hw'
  subst hw''
  replace k0 := k0 dq osq
  replace k1 := k1 dq osq
  replace k2 := k2 dq osq
  replace k3 := k3 dq osq
  replace k4 := k4 dq osq
  clear cT cF cR cN cW cC
  have b3 : Below w.heap.size w (grow (redrawn w2 dq) osq) := b2.trans ((below_regrown w2 dq osq).mono b2.size)
  generalize grow (redrawn w2 dq) osq = w3 at k0 k1 k2 k3 k4 b3 ⊢
  go_wp2_with fail
  refine (HS2.out _).mono ?_
  rintro e' w4 ⟨rfl, hb4⟩
  go_wp2_with fail
  go_ret
  exact ⟨rfl, b3.trans (hb4.mono b3.size)⟩
set_option maxRecDepth 100000 in
set_option maxHeartbeats 1000000 in
theorem checks_no (f t : ByteArray) (l c e : Int) (hf : f.size ≤ 9223372036854775807) (ht : t.size ≤ 9223372036854775807) {B : Nat} (w : World) (hG : NGlob B w) (r : Int) (hk : Hid (noteChk f.data.toList l c e t.data.toList = r)) (r0 : (r == 0) = false) (r1 : (r != 0) = true) :
    Calls Tryd.prog 3 #[.agg #[.string f, .int .i64 l, .int .i64 c, .int .i64 e, .string t]] w fun e' w' => e' = .returned (.bool true) ∧ Below w.heap.size w w' := by
  have HG := Lib.hid hG
  clear hG
  go_enter Tryd.func3, Tryd.ntmps3
  go_wp2_with fail
  refine (flt_any f t l c e hf ht _).mono ?_
  rintro e' w1 ⟨rfl, hb1⟩
  rw [hk.out]
  obtain ⟨hc1, hf1⟩ := bcell hb1
  have G1 := (HG.out.here ((Below.refl _ _).alloc (Nat.le_refl _) _)).here hb1
  have b1 : Below w.heap.size w w1 := ((Below.refl _ _).alloc (Nat.le_refl _) _).trans (hb1.mono (by simp))
  have x0 : w1.cell? ⟨w.heap.size, 0, none⟩ = some (.string f) := by rw [hc1 _ _ (by simp)]; go_simp
  have x1 : w1.cell? ⟨w.heap.size, 1, none⟩ = some (.int .i64 l) := by rw [hc1 _ _ (by simp)]; go_simp
  have x2 : w1.cell? ⟨w.heap.size, 2, none⟩ = some (.int .i64 c) := by rw [hc1 _ _ (by simp)]; go_simp
  have x3 : w1.cell? ⟨w.heap.size, 3, none⟩ = some (.int .i64 e) := by rw [hc1 _ _ (by simp)]; go_simp
  have x4 : w1.cell? ⟨w.heap.size, 4, none⟩ = some (.string t) := by rw [hc1 _ _ (by simp)]; go_simp
  clear hc1 hf1 hb1
  go_wp2_with fail
  refine (text_err f t l c e r hf ht hk _ G1 r0 r1).mono ?_
  rintro e' w2 ⟨rfl, hb2⟩
  obtain ⟨hc2, hf2⟩ := bcell hb2
  have z1 := World.block_lt_of_cell? w1 _ x0
  have G2 := G1.here hb2
  have b2 : Below w.heap.size w w2 := b1.trans (hb2.mono b1.size)
  have y0 : w2.cell? ⟨w.heap.size, 0, none⟩ = some (.string f) := by rw [hc2 _ _ z1]; exact x0
  have y1 : w2.cell? ⟨w.heap.size, 1, none⟩ = some (.int .i64 l) := by rw [hc2 _ _ z1]; exact x1
  have y2 : w2.cell? ⟨w.heap.size, 2, none⟩ = some (.int .i64 c) := by rw [hc2 _ _ z1]; exact x2
  have y3 : w2.cell? ⟨w.heap.size, 3, none⟩ = some (.int .i64 e) := by rw [hc2 _ _ z1]; exact x3
  have y4 : w2.cell? ⟨w.heap.size, 4, none⟩ = some (.string t) := by rw [hc2 _ _ z1]; exact x4
  clear hc2 hf2 hb2 x0 x1 x2 x3 x4 z1
  go_wp2_with fail
  have k0 := cell_regrown y0
  have k1 := cell_regrown y1
  have k2 := cell_regrown y2
  have k3 := cell_regrown y3
  have k4 := cell_regrown y4
  obtain ⟨bf, hbf⟩ : ∃ b, b = fileB f.data.toList := ⟨_, rfl⟩
  have HBF := Lib.hid hbf
  obtain ⟨wd, hwd⟩ : ∃ b, b = wordOf e := ⟨_, rfl⟩
  have HWD := Lib.hid hwd
  clear hbf hwd
  have cT : ∀ d os, Calls Tryd.prog 12 #[] (grow (redrawn w2 d) os) fun e w'' => e = .returned (.bool true) ∧ ∃ p : Regrown, w'' = grow (redrawn w2 p.d) p.os := fun d os => Calls.regrown_of (told_ok _ (G2.here (below_regrown w2 d os)))
  have cF : ∀ d os, Calls Tryd.prog 13 #[.string f] (grow (redrawn w2 d) os) fun e w'' => e = .returned (.bool bf) ∧ ∃ p : Regrown, w'' = grow (redrawn w2 p.d) p.os := fun d os => by rw [HBF.out]; exact Calls.regrown_of (file_any f hf _)
  have cR : ∀ d os, Calls Tryd.prog 14 #[.string f] (grow (redrawn w2 d) os) fun e w'' => e = .returned (.bool bf) ∧ ∃ p : Regrown, w'' = grow (redrawn w2 p.d) p.os := fun d os => by rw [HBF.out]; exact Calls.regrown_of (fileName_any f hf _)
  have cN : ∀ d os, Calls Tryd.prog 15 #[.int .i64 e] (grow (redrawn w2 d) os) fun e w'' => e = .returned (.string wd) ∧ ∃ p : Regrown, w'' = grow (redrawn w2 p.d) p.os := fun d os => by rw [HWD.out]; exact Calls.regrown_of (name_bel e _ (G2.here (below_regrown w2 d os)))
  have cW : ∀ d os, Calls Tryd.prog 16 #[.int .i64 e] (grow (redrawn w2 d) os) fun e w'' => e = .returned (.string wd) ∧ ∃ p : Regrown, w'' = grow (redrawn w2 p.d) p.os := fun d os => by rw [HWD.out]; exact Calls.regrown_of (noteWord_bel e _)
  have cC : ∀ d os, Calls Tryd.prog 17 #[.agg #[.string f, .int .i64 l, .int .i64 c, .int .i64 e, .string t]] (grow (redrawn w2 d) os) fun e w'' => e = .returned (.int .i64 r) ∧ ∃ p : Regrown, w'' = grow (redrawn w2 p.d) p.os := fun d os => by rw [← hk.out]; exact Calls.regrown_of (chk_any f t l c e hf ht _ (G2.here (below_regrown w2 d os)))
  refine wp_region_quiet_below (by kernel_rfl) (by kernel_rfl) ?_
  repeat (quiet_step (first | (with_reducible exact cT _ _) | (with_reducible exact cF _ _) | (with_reducible exact cR _ _) | (with_reducible exact cN _ _) | (with_reducible exact cW _ _) | (with_reducible exact cC _ _)))
  refine wpQuiet_nil ?_
  intro _ hw'
  obtain ⟨⟨dq, osq⟩, hw''⟩ := hw'
  subst hw''
  go_wp2_with fail
  go_ret
  exact ⟨rfl, b2.trans ((below_regrown w2 dq osq).mono b2.size)⟩
theorem noteChecks_any (f t : ByteArray) (l c e : Int) (hf : f.size ≤ 9223372036854775807) (ht : t.size ≤ 9223372036854775807) {B : Nat} (w : World) (hG : NGlob B w) :
    Calls Tryd.prog 3 #[.agg #[.string f, .int .i64 l, .int .i64 c, .int .i64 e, .string t]] w fun e' w' => e' = .returned (.bool true) ∧ Below w.heap.size w w' := by
  by_cases h : noteChk f.data.toList l c e t.data.toList = 0
  · exact checks_ok f t l c e hf ht w hG h
  · exact checks_no f t l c e hf ht w hG _ (Lib.hid rfl) (by simpa using h) (by simpa using h)
end Go.Proofs.YtmeofhjnckgcpaaDoor
