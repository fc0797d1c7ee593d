/- The reference's NoteFault. -/
import Derived.Test.YtmeofhjnckgcpaaDoorNoteR
namespace Go.Proofs.YtmeofhjnckgcpaaDoor
open Go Go.RowKit
set_option linter.unusedVariables false
set_option maxHeartbeats 400000 in
theorem flt_file (f t : ByteArray) (l c e : Int) (hf : f.size ≤ 9223372036854775807) (ht : t.size ≤ 9223372036854775807) (w : World) (hfile : Hid (fileB f.data.toList = false))  :
    Calls Tryd.prog 10 #[.agg #[.string f, .int .i64 l, .int .i64 c, .int .i64 e, .string t]] w fun e' w' => e' = .returned (.int .i64 9) ∧ Below w.heap.size w w' := by
  go_enter Tryd.func10, Tryd.ntmps10
  go_wp2_with fail
  refine (fileName_any f hf _).mono ?_
  rintro e' w1 ⟨rfl, hb1⟩
  rw [hfile.out]
  obtain ⟨hc1, hf1⟩ := bcell hb1
  have z1 : w.heap.size < w1.heap.size := bsize hb1 (by first | omega | (simp <;> omega))
  go_wp2_with fail
  go_ret
  exact ⟨rfl, (by (repeat (first | exact Below.refl _ _ | exact Nat.le_refl _ | refine below_drewN ?_ _ | refine Below.drew ?_ | refine Below.alloc ?_ ?_ _ | refine Below.setCell ?_ ?_ _ | refine below_step (by assumption) ?_ ?_)) <;> (first | omega | (simp <;> omega)))⟩
set_option maxHeartbeats 400000 in
theorem flt_r0 (f t : ByteArray) (l c e : Int) (hf : f.size ≤ 9223372036854775807) (ht : t.size ≤ 9223372036854775807) (w : World) (hfile : Hid (fileB f.data.toList = true)) (h1 : l < 1) :
    Calls Tryd.prog 10 #[.agg #[.string f, .int .i64 l, .int .i64 c, .int .i64 e, .string t]] w fun e' w' => e' = .returned (.int .i64 2) ∧ Below w.heap.size w w' := by
  go_enter Tryd.func10, Tryd.ntmps10
  go_wp2_with fail
  refine (fileName_any f hf _).mono ?_
  rintro e' w1 ⟨rfl, hb1⟩
  rw [hfile.out]
  obtain ⟨hc1, hf1⟩ := bcell hb1
  have z1 : w.heap.size < w1.heap.size := bsize hb1 (by first | omega | (simp <;> omega))
  go_wp2_with fail
  go_ret
  exact ⟨rfl, (by (repeat (first | exact Below.refl _ _ | exact Nat.le_refl _ | refine below_drewN ?_ _ | refine Below.drew ?_ | refine Below.alloc ?_ ?_ _ | refine Below.setCell ?_ ?_ _ | refine below_step (by assumption) ?_ ?_)) <;> (first | omega | (simp <;> omega)))⟩
set_option maxHeartbeats 400000 in
theorem flt_r1 (f t : ByteArray) (l c e : Int) (hf : f.size ≤ 9223372036854775807) (ht : t.size ≤ 9223372036854775807) (w : World) (hfile : Hid (fileB f.data.toList = true)) (h1 : 1 ≤ l) (h2 : 16000 < l) :
    Calls Tryd.prog 10 #[.agg #[.string f, .int .i64 l, .int .i64 c, .int .i64 e, .string t]] w fun e' w' => e' = .returned (.int .i64 2) ∧ Below w.heap.size w w' := by
  go_enter Tryd.func10, Tryd.ntmps10
  go_wp2_with fail
  refine (fileName_any f hf _).mono ?_
  rintro e' w1 ⟨rfl, hb1⟩
  rw [hfile.out]
  obtain ⟨hc1, hf1⟩ := bcell hb1
  have z1 : w.heap.size < w1.heap.size := bsize hb1 (by first | omega | (simp <;> omega))
  go_wp2_with fail
  go_ret
  exact ⟨rfl, (by (repeat (first | exact Below.refl _ _ | exact Nat.le_refl _ | refine below_drewN ?_ _ | refine Below.drew ?_ | refine Below.alloc ?_ ?_ _ | refine Below.setCell ?_ ?_ _ | refine below_step (by assumption) ?_ ?_)) <;> (first | omega | (simp <;> omega)))⟩
set_option maxHeartbeats 400000 in
theorem flt_r2 (f t : ByteArray) (l c e : Int) (hf : f.size ≤ 9223372036854775807) (ht : t.size ≤ 9223372036854775807) (w : World) (hfile : Hid (fileB f.data.toList = true)) (h1 : 1 ≤ l) (h2 : l ≤ 16000) (h3 : c < 1) :
    Calls Tryd.prog 10 #[.agg #[.string f, .int .i64 l, .int .i64 c, .int .i64 e, .string t]] w fun e' w' => e' = .returned (.int .i64 2) ∧ Below w.heap.size w w' := by
  go_enter Tryd.func10, Tryd.ntmps10
  go_wp2_with fail
  refine (fileName_any f hf _).mono ?_
  rintro e' w1 ⟨rfl, hb1⟩
  rw [hfile.out]
  obtain ⟨hc1, hf1⟩ := bcell hb1
  have z1 : w.heap.size < w1.heap.size := bsize hb1 (by first | omega | (simp <;> omega))
  go_wp2_with fail
  go_ret
  exact ⟨rfl, (by (repeat (first | exact Below.refl _ _ | exact Nat.le_refl _ | refine below_drewN ?_ _ | refine Below.drew ?_ | refine Below.alloc ?_ ?_ _ | refine Below.setCell ?_ ?_ _ | refine below_step (by assumption) ?_ ?_)) <;> (first | omega | (simp <;> omega)))⟩
set_option maxHeartbeats 400000 in
theorem flt_r3 (f t : ByteArray) (l c e : Int) (hf : f.size ≤ 9223372036854775807) (ht : t.size ≤ 9223372036854775807) (w : World) (hfile : Hid (fileB f.data.toList = true)) (h1 : 1 ≤ l) (h2 : l ≤ 16000) (h3 : 1 ≤ c) (h4 : 16001 < c) :
    Calls Tryd.prog 10 #[.agg #[.string f, .int .i64 l, .int .i64 c, .int .i64 e, .string t]] w fun e' w' => e' = .returned (.int .i64 2) ∧ Below w.heap.size w w' := by
  go_enter Tryd.func10, Tryd.ntmps10
  go_wp2_with fail
  refine (fileName_any f hf _).mono ?_
  rintro e' w1 ⟨rfl, hb1⟩
  rw [hfile.out]
  obtain ⟨hc1, hf1⟩ := bcell hb1
  have z1 : w.heap.size < w1.heap.size := bsize hb1 (by first | omega | (simp <;> omega))
  go_wp2_with fail
  go_ret
  exact ⟨rfl, (by (repeat (first | exact Below.refl _ _ | exact Nat.le_refl _ | refine below_drewN ?_ _ | refine Below.drew ?_ | refine Below.alloc ?_ ?_ _ | refine Below.setCell ?_ ?_ _ | refine below_step (by assumption) ?_ ?_)) <;> (first | omega | (simp <;> omega)))⟩
set_option maxHeartbeats 400000 in
theorem flt_r4 (f t : ByteArray) (l c e : Int) (hf : f.size ≤ 9223372036854775807) (ht : t.size ≤ 9223372036854775807) (w : World) (hfile : Hid (fileB f.data.toList = true)) (h1 : 1 ≤ l) (h2 : l ≤ 16000) (h3 : 1 ≤ c) (h4 : c ≤ 16001) (he : e < 1) :
    Calls Tryd.prog 10 #[.agg #[.string f, .int .i64 l, .int .i64 c, .int .i64 e, .string t]] w fun e' w' => e' = .returned (.int .i64 2) ∧ Below w.heap.size w w' := by
  go_enter Tryd.func10, Tryd.ntmps10
  go_wp2_with fail
  refine (fileName_any f hf _).mono ?_
  rintro e' w1 ⟨rfl, hb1⟩
  rw [hfile.out]
  obtain ⟨hc1, hf1⟩ := bcell hb1
  have z1 : w.heap.size < w1.heap.size := bsize hb1 (by first | omega | (simp <;> omega))
  go_wp2_with fail
  go_ret
  exact ⟨rfl, (by (repeat (first | exact Below.refl _ _ | exact Nat.le_refl _ | refine below_drewN ?_ _ | refine Below.drew ?_ | refine Below.alloc ?_ ?_ _ | refine Below.setCell ?_ ?_ _ | refine below_step (by assumption) ?_ ?_)) <;> (first | omega | (simp <;> omega)))⟩
set_option maxHeartbeats 400000 in
theorem flt_r5 (f t : ByteArray) (l c e : Int) (hf : f.size ≤ 9223372036854775807) (ht : t.size ≤ 9223372036854775807) (w : World) (hfile : Hid (fileB f.data.toList = true)) (h1 : 1 ≤ l) (h2 : l ≤ 16000) (h3 : 1 ≤ c) (h4 : c ≤ 16001) (he : 1 ≤ e) (he2 : 22 < e) :
    Calls Tryd.prog 10 #[.agg #[.string f, .int .i64 l, .int .i64 c, .int .i64 e, .string t]] w fun e' w' => e' = .returned (.int .i64 2) ∧ Below w.heap.size w w' := by
  go_enter Tryd.func10, Tryd.ntmps10
  go_wp2_with fail
  refine (fileName_any f hf _).mono ?_
  rintro e' w1 ⟨rfl, hb1⟩
  rw [hfile.out]
  obtain ⟨hc1, hf1⟩ := bcell hb1
  have z1 : w.heap.size < w1.heap.size := bsize hb1 (by first | omega | (simp <;> omega))
  go_wp2_with fail
  go_ret
  exact ⟨rfl, (by (repeat (first | exact Below.refl _ _ | exact Nat.le_refl _ | refine below_drewN ?_ _ | refine Below.drew ?_ | refine Below.alloc ?_ ?_ _ | refine Below.setCell ?_ ?_ _ | refine below_step (by assumption) ?_ ?_)) <;> (first | omega | (simp <;> omega)))⟩
set_option maxHeartbeats 400000 in
theorem flt_long (f t : ByteArray) (l c e : Int) (hf : f.size ≤ 9223372036854775807) (ht : t.size ≤ 9223372036854775807) (w : World) (hfile : Hid (fileB f.data.toList = true)) (h1 : 1 ≤ l) (h2 : l ≤ 16000) (h3 : 1 ≤ c) (h4 : c ≤ 16001) (he : 1 ≤ e) (he2 : e ≤ 22) (h5 : 200 < t.size) :
    Calls Tryd.prog 10 #[.agg #[.string f, .int .i64 l, .int .i64 c, .int .i64 e, .string t]] w fun e' w' => e' = .returned (.int .i64 4) ∧ Below w.heap.size w w' := by
  go_enter Tryd.func10, Tryd.ntmps10
  go_wp2_with fail
  refine (fileName_any f hf _).mono ?_
  rintro e' w1 ⟨rfl, hb1⟩
  rw [hfile.out]
  obtain ⟨hc1, hf1⟩ := bcell hb1
  have z1 : w.heap.size < w1.heap.size := bsize hb1 (by first | omega | (simp <;> omega))
  go_wp2_with fail
  go_ret
  exact ⟨rfl, (by (repeat (first | exact Below.refl _ _ | exact Nat.le_refl _ | refine below_drewN ?_ _ | refine Below.drew ?_ | refine Below.alloc ?_ ?_ _ | refine Below.setCell ?_ ?_ _ | refine below_step (by assumption) ?_ ?_)) <;> (first | omega | (simp <;> omega)))⟩
set_option maxHeartbeats 400000 in
theorem flt_bytes (f t : ByteArray) (l c e : Int) (hf : f.size ≤ 9223372036854775807) (ht : t.size ≤ 9223372036854775807) (w : World) (hfile : Hid (fileB f.data.toList = true)) (h1 : 1 ≤ l) (h2 : l ≤ 16000) (h3 : 1 ≤ c) (h4 : c ≤ 16001) (he : 1 ≤ e) (he2 : e ≤ 22) (h5 : t.size ≤ 200) (hwi : Hid (wib 32 126 (⟨#[]⟩ : ByteArray).data.toList t.data.toList = false)) :
    Calls Tryd.prog 10 #[.agg #[.string f, .int .i64 l, .int .i64 c, .int .i64 e, .string t]] w fun e' w' => e' = .returned (.int .i64 4) ∧ Below w.heap.size w w' := by
  go_enter Tryd.func10, Tryd.ntmps10
  go_wp2_with fail
  refine (fileName_any f hf _).mono ?_
  rintro e' w1 ⟨rfl, hb1⟩
  rw [hfile.out]
  obtain ⟨hc1, hf1⟩ := bcell hb1
  have z1 : w.heap.size < w1.heap.size := bsize hb1 (by first | omega | (simp <;> omega))
  go_wp2_with fail
  refine (rwithin_any t ⟨#[]⟩ 32 126 ht (by decide) _).mono ?_
  rintro e' w2 ⟨rfl, hb2⟩
  rw [hwi.out]
  go_wp2_with fail
  go_ret
  exact ⟨rfl, (by (repeat (first | exact Below.refl _ _ | exact Nat.le_refl _ | refine below_drewN ?_ _ | refine Below.drew ?_ | refine Below.alloc ?_ ?_ _ | refine Below.setCell ?_ ?_ _ | refine below_step (by assumption) ?_ ?_)) <;> (first | omega | (simp <;> omega)))⟩
set_option maxHeartbeats 400000 in
theorem flt_ok (f t : ByteArray) (l c e : Int) (hf : f.size ≤ 9223372036854775807) (ht : t.size ≤ 9223372036854775807) (w : World) (hfile : Hid (fileB f.data.toList = true)) (h1 : 1 ≤ l) (h2 : l ≤ 16000) (h3 : 1 ≤ c) (h4 : c ≤ 16001) (he : 1 ≤ e) (he2 : e ≤ 22) (h5 : t.size ≤ 200) (hwi : Hid (wib 32 126 (⟨#[]⟩ : ByteArray).data.toList t.data.toList = true)) :
    Calls Tryd.prog 10 #[.agg #[.string f, .int .i64 l, .int .i64 c, .int .i64 e, .string t]] w fun e' w' => e' = .returned (.int .i64 0) ∧ Below w.heap.size w w' := by
  go_enter Tryd.func10, Tryd.ntmps10
  go_wp2_with fail
  refine (fileName_any f hf _).mono ?_
  rintro e' w1 ⟨rfl, hb1⟩
  rw [hfile.out]
  obtain ⟨hc1, hf1⟩ := bcell hb1
  have z1 : w.heap.size < w1.heap.size := bsize hb1 (by first | omega | (simp <;> omega))
  go_wp2_with fail
  refine (rwithin_any t ⟨#[]⟩ 32 126 ht (by decide) _).mono ?_
  rintro e' w2 ⟨rfl, hb2⟩
  rw [hwi.out]
  go_wp2_with fail
  go_ret
  exact ⟨rfl, (by (repeat (first | exact Below.refl _ _ | exact Nat.le_refl _ | refine below_drewN ?_ _ | refine Below.drew ?_ | refine Below.alloc ?_ ?_ _ | refine Below.setCell ?_ ?_ _ | refine below_step (by assumption) ?_ ?_)) <;> (first | omega | (simp <;> omega)))⟩
theorem flt_any (f t : ByteArray) (l c e : Int) (hf : f.size ≤ 9223372036854775807) (ht : t.size ≤ 9223372036854775807) (w : World) :
    Calls Tryd.prog 10 #[.agg #[.string f, .int .i64 l, .int .i64 c, .int .i64 e, .string t]] w fun e' w' => e' = .returned (.int .i64 (noteChk f.data.toList l c e t.data.toList)) ∧ Below w.heap.size w w' := by
  unfold noteChk
  rw [len_toList]
  cases hfile : fileB f.data.toList
  · simp only [Bool.false_eq_true, if_false]
    exact flt_file f t l c e hf ht w hfile
  · simp only [if_true]
    by_cases h1 : l < 1
    · rw [if_neg (by omega)]; exact flt_r0 f t l c e hf ht w hfile h1
    by_cases h2 : 16000 < l
    · rw [if_neg (by omega)]; exact flt_r1 f t l c e hf ht w hfile (by omega) h2
    by_cases h3 : c < 1
    · rw [if_neg (by omega)]; exact flt_r2 f t l c e hf ht w hfile (by omega) (by omega) h3
    by_cases h4 : 16001 < c
    · rw [if_neg (by omega)]; exact flt_r3 f t l c e hf ht w hfile (by omega) (by omega) (by omega) h4
    by_cases he : e < 1
    · rw [if_neg (by omega)]; exact flt_r4 f t l c e hf ht w hfile (by omega) (by omega) (by omega) (by omega) he
    by_cases he2 : 22 < e
    · rw [if_neg (by omega)]; exact flt_r5 f t l c e hf ht w hfile (by omega) (by omega) (by omega) (by omega) (by omega) he2
    rw [if_pos (by omega)]
    have hn : wib 32 126 (⟨#[]⟩ : ByteArray).data.toList t.data.toList = wi 32 126 t.data.toList := wib_nil 32 126 _
    by_cases h5 : 200 < t.size
    · rw [if_neg (by omega)]; exact flt_long f t l c e hf ht w hfile (by omega) (by omega) (by omega) (by omega) (by omega) (by omega) h5
    · cases hw : wi 32 126 t.data.toList
      · rw [if_neg (by simp)]; exact flt_bytes f t l c e hf ht w hfile (by omega) (by omega) (by omega) (by omega) (by omega) (by omega) (by omega) (hn.trans hw)
      · rw [if_pos ⟨by omega, rfl⟩]; exact flt_ok f t l c e hf ht w hfile (by omega) (by omega) (by omega) (by omega) (by omega) (by omega) (by omega) (hn.trans hw)
end Go.Proofs.YtmeofhjnckgcpaaDoor
