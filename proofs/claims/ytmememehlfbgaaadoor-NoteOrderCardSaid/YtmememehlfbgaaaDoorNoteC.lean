/- Package note: Check. -/
import Derived.Test.YtmememehlfbgaaaDoorNoteW
namespace Go.Proofs.YtmememehlfbgaaaDoor
open Go Go.RowKit
set_option linter.unusedVariables false
theorem len_toList (s : ByteArray) : s.data.toList.length = s.size := by simp
set_option maxHeartbeats 400000 in
theorem chk_file (f t : ByteArray) (l c e : Int) (hf : f.size ≤ 9223372036854775807) (ht : t.size ≤ 9223372036854775807) {B : Nat} (w : World) (hG : NGlob B w) (hfile : Hid (fileB f.data.toList = false))  :
    Calls Tryd.prog 77 #[.agg #[.string f, .int .i64 l, .int .i64 c, .int .i64 e, .string t]] w fun e' w' => e' = .returned (.int .i64 9) ∧ Below w.heap.size w w' := by
  have HG := Lib.hid hG
  clear hG
  go_enter Tryd.func77, Tryd.ntmps77
  go_wp2_with fail
  refine (file_any f hf _).mono ?_
  rintro e' w1 ⟨rfl, hb1⟩
  rw [hfile.out]
  obtain ⟨hc1, hf1⟩ := bcell hb1
  have z1 : w.heap.size < w1.heap.size := bsize hb1 (by first | omega | (simp <;> omega))
  go_wp2_with fail
  go_ret
  exact ⟨rfl, (by (repeat (first | exact Below.refl _ _ | exact Nat.le_refl _ | refine below_drewN ?_ _ | refine Below.drew ?_ | refine Below.alloc ?_ ?_ _ | refine Below.setCell ?_ ?_ _ | refine below_step (by assumption) ?_ ?_)) <;> (first | omega | (simp <;> omega)))⟩
set_option maxHeartbeats 400000 in
theorem chk_r0 (f t : ByteArray) (l c e : Int) (hf : f.size ≤ 9223372036854775807) (ht : t.size ≤ 9223372036854775807) {B : Nat} (w : World) (hG : NGlob B w) (hfile : Hid (fileB f.data.toList = true)) (h1 : l < 1) :
    Calls Tryd.prog 77 #[.agg #[.string f, .int .i64 l, .int .i64 c, .int .i64 e, .string t]] w fun e' w' => e' = .returned (.int .i64 2) ∧ Below w.heap.size w w' := by
  have HG := Lib.hid hG
  clear hG
  go_enter Tryd.func77, Tryd.ntmps77
  go_wp2_with fail
  refine (file_any f hf _).mono ?_
  rintro e' w1 ⟨rfl, hb1⟩
  rw [hfile.out]
  obtain ⟨hc1, hf1⟩ := bcell hb1
  have z1 : w.heap.size < w1.heap.size := bsize hb1 (by first | omega | (simp <;> omega))
  go_wp2_with fail
  go_ret
  exact ⟨rfl, (by (repeat (first | exact Below.refl _ _ | exact Nat.le_refl _ | refine below_drewN ?_ _ | refine Below.drew ?_ | refine Below.alloc ?_ ?_ _ | refine Below.setCell ?_ ?_ _ | refine below_step (by assumption) ?_ ?_)) <;> (first | omega | (simp <;> omega)))⟩
set_option maxHeartbeats 400000 in
theorem chk_r1 (f t : ByteArray) (l c e : Int) (hf : f.size ≤ 9223372036854775807) (ht : t.size ≤ 9223372036854775807) {B : Nat} (w : World) (hG : NGlob B w) (hfile : Hid (fileB f.data.toList = true)) (h1 : 1 ≤ l) (h2 : 16000 < l) :
    Calls Tryd.prog 77 #[.agg #[.string f, .int .i64 l, .int .i64 c, .int .i64 e, .string t]] w fun e' w' => e' = .returned (.int .i64 2) ∧ Below w.heap.size w w' := by
  have HG := Lib.hid hG
  clear hG
  go_enter Tryd.func77, Tryd.ntmps77
  go_wp2_with fail
  refine (file_any f hf _).mono ?_
  rintro e' w1 ⟨rfl, hb1⟩
  rw [hfile.out]
  obtain ⟨hc1, hf1⟩ := bcell hb1
  have z1 : w.heap.size < w1.heap.size := bsize hb1 (by first | omega | (simp <;> omega))
  go_wp2_with fail
  go_ret
  exact ⟨rfl, (by (repeat (first | exact Below.refl _ _ | exact Nat.le_refl _ | refine below_drewN ?_ _ | refine Below.drew ?_ | refine Below.alloc ?_ ?_ _ | refine Below.setCell ?_ ?_ _ | refine below_step (by assumption) ?_ ?_)) <;> (first | omega | (simp <;> omega)))⟩
set_option maxHeartbeats 400000 in
theorem chk_r2 (f t : ByteArray) (l c e : Int) (hf : f.size ≤ 9223372036854775807) (ht : t.size ≤ 9223372036854775807) {B : Nat} (w : World) (hG : NGlob B w) (hfile : Hid (fileB f.data.toList = true)) (h1 : 1 ≤ l) (h2 : l ≤ 16000) (h3 : c < 1) :
    Calls Tryd.prog 77 #[.agg #[.string f, .int .i64 l, .int .i64 c, .int .i64 e, .string t]] w fun e' w' => e' = .returned (.int .i64 2) ∧ Below w.heap.size w w' := by
  have HG := Lib.hid hG
  clear hG
  go_enter Tryd.func77, Tryd.ntmps77
  go_wp2_with fail
  refine (file_any f hf _).mono ?_
  rintro e' w1 ⟨rfl, hb1⟩
  rw [hfile.out]
  obtain ⟨hc1, hf1⟩ := bcell hb1
  have z1 : w.heap.size < w1.heap.size := bsize hb1 (by first | omega | (simp <;> omega))
  go_wp2_with fail
  go_ret
  exact ⟨rfl, (by (repeat (first | exact Below.refl _ _ | exact Nat.le_refl _ | refine below_drewN ?_ _ | refine Below.drew ?_ | refine Below.alloc ?_ ?_ _ | refine Below.setCell ?_ ?_ _ | refine below_step (by assumption) ?_ ?_)) <;> (first | omega | (simp <;> omega)))⟩
set_option maxHeartbeats 400000 in
theorem chk_r3 (f t : ByteArray) (l c e : Int) (hf : f.size ≤ 9223372036854775807) (ht : t.size ≤ 9223372036854775807) {B : Nat} (w : World) (hG : NGlob B w) (hfile : Hid (fileB f.data.toList = true)) (h1 : 1 ≤ l) (h2 : l ≤ 16000) (h3 : 1 ≤ c) (h4 : 16001 < c) :
    Calls Tryd.prog 77 #[.agg #[.string f, .int .i64 l, .int .i64 c, .int .i64 e, .string t]] w fun e' w' => e' = .returned (.int .i64 2) ∧ Below w.heap.size w w' := by
  have HG := Lib.hid hG
  clear hG
  go_enter Tryd.func77, Tryd.ntmps77
  go_wp2_with fail
  refine (file_any f hf _).mono ?_
  rintro e' w1 ⟨rfl, hb1⟩
  rw [hfile.out]
  obtain ⟨hc1, hf1⟩ := bcell hb1
  have z1 : w.heap.size < w1.heap.size := bsize hb1 (by first | omega | (simp <;> omega))
  go_wp2_with fail
  go_ret
  exact ⟨rfl, (by (repeat (first | exact Below.refl _ _ | exact Nat.le_refl _ | refine below_drewN ?_ _ | refine Below.drew ?_ | refine Below.alloc ?_ ?_ _ | refine Below.setCell ?_ ?_ _ | refine below_step (by assumption) ?_ ?_)) <;> (first | omega | (simp <;> omega)))⟩
set_option maxHeartbeats 400000 in
theorem chk_word (f t : ByteArray) (l c e : Int) (hf : f.size ≤ 9223372036854775807) (ht : t.size ≤ 9223372036854775807) {B : Nat} (w : World) (hG : NGlob B w) (hfile : Hid (fileB f.data.toList = true)) (h1 : 1 ≤ l) (h2 : l ≤ 16000) (h3 : 1 ≤ c) (h4 : c ≤ 16001) (he : (wordOf e).toList = []) (he2 : (wordOf e).toList.isEmpty = true) :
    Calls Tryd.prog 77 #[.agg #[.string f, .int .i64 l, .int .i64 c, .int .i64 e, .string t]] w fun e' w' => e' = .returned (.int .i64 2) ∧ Below w.heap.size w w' := by
  have HG := Lib.hid hG
  clear hG
  go_enter Tryd.func77, Tryd.ntmps77
  go_wp2_with fail
  refine (file_any f hf _).mono ?_
  rintro e' w1 ⟨rfl, hb1⟩
  rw [hfile.out]
  obtain ⟨hc1, hf1⟩ := bcell hb1
  have z1 : w.heap.size < w1.heap.size := bsize hb1 (by first | omega | (simp <;> omega))
  go_wp2_with fail
  refine (name_any e _ ((HG.out.here ((Below.refl _ _).alloc (Nat.le_refl _) _)).here hb1)).mono ?_
  rintro e' w' ⟨rfl, rfl⟩
  go_wp2_with fail
  go_ret
  exact ⟨rfl, (by (repeat (first | exact Below.refl _ _ | exact Nat.le_refl _ | refine below_drewN ?_ _ | refine Below.drew ?_ | refine Below.alloc ?_ ?_ _ | refine Below.setCell ?_ ?_ _ | refine below_step (by assumption) ?_ ?_)) <;> (first | omega | (simp <;> omega)))⟩
set_option maxHeartbeats 400000 in
theorem chk_long (f t : ByteArray) (l c e : Int) (hf : f.size ≤ 9223372036854775807) (ht : t.size ≤ 9223372036854775807) {B : Nat} (w : World) (hG : NGlob B w) (hfile : Hid (fileB f.data.toList = true)) (h1 : 1 ≤ l) (h2 : l ≤ 16000) (h3 : 1 ≤ c) (h4 : c ≤ 16001) (he : ¬ (wordOf e).toList = []) (he2 : (wordOf e).toList.isEmpty = false) (h5 : 200 < t.size) :
    Calls Tryd.prog 77 #[.agg #[.string f, .int .i64 l, .int .i64 c, .int .i64 e, .string t]] w fun e' w' => e' = .returned (.int .i64 4) ∧ Below w.heap.size w w' := by
  have HG := Lib.hid hG
  clear hG
  go_enter Tryd.func77, Tryd.ntmps77
  go_wp2_with fail
  refine (file_any f hf _).mono ?_
  rintro e' w1 ⟨rfl, hb1⟩
  rw [hfile.out]
  obtain ⟨hc1, hf1⟩ := bcell hb1
  have z1 : w.heap.size < w1.heap.size := bsize hb1 (by first | omega | (simp <;> omega))
  go_wp2_with fail
  refine (name_any e _ ((HG.out.here ((Below.refl _ _).alloc (Nat.le_refl _) _)).here hb1)).mono ?_
  rintro e' w' ⟨rfl, rfl⟩
  go_wp2_with fail
  go_ret
  exact ⟨rfl, (by (repeat (first | exact Below.refl _ _ | exact Nat.le_refl _ | refine below_drewN ?_ _ | refine Below.drew ?_ | refine Below.alloc ?_ ?_ _ | refine Below.setCell ?_ ?_ _ | refine below_step (by assumption) ?_ ?_)) <;> (first | omega | (simp <;> omega)))⟩
set_option maxHeartbeats 400000 in
theorem chk_bytes (f t : ByteArray) (l c e : Int) (hf : f.size ≤ 9223372036854775807) (ht : t.size ≤ 9223372036854775807) {B : Nat} (w : World) (hG : NGlob B w) (hfile : Hid (fileB f.data.toList = true)) (h1 : 1 ≤ l) (h2 : l ≤ 16000) (h3 : 1 ≤ c) (h4 : c ≤ 16001) (he : ¬ (wordOf e).toList = []) (he2 : (wordOf e).toList.isEmpty = false) (h5 : t.size ≤ 200) (hwi : Hid (wi 32 126 t.data.toList = false)) :
    Calls Tryd.prog 77 #[.agg #[.string f, .int .i64 l, .int .i64 c, .int .i64 e, .string t]] w fun e' w' => e' = .returned (.int .i64 4) ∧ Below w.heap.size w w' := by
  have HG := Lib.hid hG
  clear hG
  go_enter Tryd.func77, Tryd.ntmps77
  go_wp2_with fail
  refine (file_any f hf _).mono ?_
  rintro e' w1 ⟨rfl, hb1⟩
  rw [hfile.out]
  obtain ⟨hc1, hf1⟩ := bcell hb1
  have z1 : w.heap.size < w1.heap.size := bsize hb1 (by first | omega | (simp <;> omega))
  go_wp2_with fail
  refine (name_any e _ ((HG.out.here ((Below.refl _ _).alloc (Nat.le_refl _) _)).here hb1)).mono ?_
  rintro e' w' ⟨rfl, rfl⟩
  go_wp2_with fail
  refine (nwithin_any t 32 126 ht _).mono ?_
  rintro e' w' ⟨rfl, rfl⟩
  rw [hwi.out]
  go_wp2_with fail
  go_ret
  exact ⟨rfl, (by (repeat (first | exact Below.refl _ _ | exact Nat.le_refl _ | refine below_drewN ?_ _ | refine Below.drew ?_ | refine Below.alloc ?_ ?_ _ | refine Below.setCell ?_ ?_ _ | refine below_step (by assumption) ?_ ?_)) <;> (first | omega | (simp <;> omega)))⟩
set_option maxHeartbeats 400000 in
theorem chk_ok (f t : ByteArray) (l c e : Int) (hf : f.size ≤ 9223372036854775807) (ht : t.size ≤ 9223372036854775807) {B : Nat} (w : World) (hG : NGlob B w) (hfile : Hid (fileB f.data.toList = true)) (h1 : 1 ≤ l) (h2 : l ≤ 16000) (h3 : 1 ≤ c) (h4 : c ≤ 16001) (he : ¬ (wordOf e).toList = []) (he2 : (wordOf e).toList.isEmpty = false) (h5 : t.size ≤ 200) (hwi : Hid (wi 32 126 t.data.toList = true)) :
    Calls Tryd.prog 77 #[.agg #[.string f, .int .i64 l, .int .i64 c, .int .i64 e, .string t]] w fun e' w' => e' = .returned (.int .i64 0) ∧ Below w.heap.size w w' := by
  have HG := Lib.hid hG
  clear hG
  go_enter Tryd.func77, Tryd.ntmps77
  go_wp2_with fail
  refine (file_any f hf _).mono ?_
  rintro e' w1 ⟨rfl, hb1⟩
  rw [hfile.out]
  obtain ⟨hc1, hf1⟩ := bcell hb1
  have z1 : w.heap.size < w1.heap.size := bsize hb1 (by first | omega | (simp <;> omega))
  go_wp2_with fail
  refine (name_any e _ ((HG.out.here ((Below.refl _ _).alloc (Nat.le_refl _) _)).here hb1)).mono ?_
  rintro e' w' ⟨rfl, rfl⟩
  go_wp2_with fail
  refine (nwithin_any t 32 126 ht _).mono ?_
  rintro e' w' ⟨rfl, rfl⟩
  rw [hwi.out]
  go_wp2_with fail
  go_ret
  exact ⟨rfl, (by (repeat (first | exact Below.refl _ _ | exact Nat.le_refl _ | refine below_drewN ?_ _ | refine Below.drew ?_ | refine Below.alloc ?_ ?_ _ | refine Below.setCell ?_ ?_ _ | refine below_step (by assumption) ?_ ?_)) <;> (first | omega | (simp <;> omega)))⟩
theorem wordOf_ne {e : Int} (h1 : 1 ≤ e) (h2 : e ≤ 22) : ¬ (wordOf e).toList = [] := by
  intro h
  unfold wordOf at h
  rw [if_pos (by omega), Lib.toList_data] at h
  have h3 := wordB_pos (j := e.toNat) (by omega) (by omega)
  have h4 : (wordB e.toNat).data.toList.length = 0 := by rw [h]; rfl
  rw [len_toList] at h4
  omega
theorem wordOf_nil {e : Int} (h : ¬ (1 ≤ e ∧ e ≤ 22)) : (wordOf e).toList = [] := by
  unfold wordOf
  split
  · obtain rfl : e = 0 := by omega
    decide +kernel
  · decide +kernel
theorem chk_any (f t : ByteArray) (l c e : Int) (hf : f.size ≤ 9223372036854775807) (ht : t.size ≤ 9223372036854775807) {B : Nat} (w : World) (hG : NGlob B w) :
    Calls Tryd.prog 77 #[.agg #[.string f, .int .i64 l, .int .i64 c, .int .i64 e, .string t]] w fun e' w' => e' = .returned (.int .i64 (noteChk f.data.toList l c e t.data.toList)) ∧ Below w.heap.size w w' := by
  unfold noteChk
  rw [len_toList]
  cases hfile : fileB f.data.toList
  · simp only [Bool.false_eq_true, if_false]
    exact chk_file f t l c e hf ht w hG hfile
  · simp only [if_true]
    by_cases h1 : l < 1
    · rw [if_neg (by omega)]; exact chk_r0 f t l c e hf ht w hG hfile h1
    by_cases h2 : 16000 < l
    · rw [if_neg (by omega)]; exact chk_r1 f t l c e hf ht w hG hfile (by omega) h2
    by_cases h3 : c < 1
    · rw [if_neg (by omega)]; exact chk_r2 f t l c e hf ht w hG hfile (by omega) (by omega) h3
    by_cases h4 : 16001 < c
    · rw [if_neg (by omega)]; exact chk_r3 f t l c e hf ht w hG hfile (by omega) (by omega) (by omega) h4
    by_cases he : 1 ≤ e ∧ e ≤ 22
    · have n1 := wordOf_ne he.1 he.2
      have n2 : (wordOf e).toList.isEmpty = false := by simpa using n1
      rw [if_pos (by omega)]
      by_cases h5 : 200 < t.size
      · rw [if_neg (by omega)]; exact chk_long f t l c e hf ht w hG hfile (by omega) (by omega) (by omega) (by omega) n1 n2 h5
      · cases hw : wi 32 126 t.data.toList
        · rw [if_neg (by simp)]; exact chk_bytes f t l c e hf ht w hG hfile (by omega) (by omega) (by omega) (by omega) n1 n2 (by omega) hw
        · rw [if_pos ⟨by omega, rfl⟩]; exact chk_ok f t l c e hf ht w hG hfile (by omega) (by omega) (by omega) (by omega) n1 n2 (by omega) hw
    · have n1 := wordOf_nil he
      rw [if_neg (by omega)]; exact chk_word f t l c e hf ht w hG hfile (by omega) (by omega) (by omega) (by omega) n1 (by simp [n1])
end Go.Proofs.YtmememehlfbgaaaDoor
