/- Vectors that are not valid, and widths out of range: what Known, Uint, Int, Bit, True, Of and All return. -/
import Derived.Test.YtdpmojkpfnkcdaaDoorRefB2
import Derived.Test.YtdpmojkpfnkcdaaDoorVectors
import Derived.Test.YtdpmojkpfnkcdaaDoorText
namespace Go.Proofs.YtdpmojkpfnkcdaaDoor
open Go Go.RowKit
set_option linter.unusedVariables false
set_option maxRecDepth 100000 in
set_option maxHeartbeats 800000 in
theorem known_ill (r : Rb) (w : World) (h : r.okB = false) : Calls Tryd.prog 14 #[.agg #[.int .i64 r.W, .int .u64 (U r.v), .int .u64 (U r.x)]] w fun e w' => e = .returned (.bool false) ∧ Below w.heap.size w w' := by
  obtain ⟨W, V, X⟩ := r
  have c1 := Lib.hid fun w => valid_no W V X w h
  clear h
  show Calls Tryd.prog 14 #[.agg #[.int .i64 W, .int .u64 (U V), .int .u64 (U X)]] w _
  go_enter Tryd.func14, Tryd.ntmps14
  go_wp2_with fail
  refine (c1.out _).mono ?_
  rintro e w1 ⟨rfl, hb1⟩
  have b1 : Below w.heap.size w w1 := ((Below.refl _ _).alloc (Nat.le_refl _) _).trans (hb1.mono (by simp))
  obtain ⟨hc1, hf1⟩ := bcell hb1
  have z1 : w.heap.size < w1.heap.size := bsize hb1 (by simp)
  go_wp2_with fail
  go_ret
  exact ⟨rfl, b1⟩
set_option maxRecDepth 100000 in
set_option maxHeartbeats 800000 in
theorem uint_ill (r : Rb) (w : World) (h : r.okB = false) : Calls Tryd.prog 11 #[.agg #[.int .i64 r.W, .int .u64 (U r.v), .int .u64 (U r.x)]] w fun e w' => e = .returned (.tuple #[.int .u64 0, .bool false]) ∧ Below w.heap.size w w' := by
  obtain ⟨W, V, X⟩ := r
  have c1 := Lib.hid fun w => known_ill ⟨W, V, X⟩ w h
  clear h
  show Calls Tryd.prog 11 #[.agg #[.int .i64 W, .int .u64 (U V), .int .u64 (U X)]] w _
  go_enter Tryd.func11, Tryd.ntmps11
  go_wp2_with fail
  refine (c1.out _).mono ?_
  rintro e w1 ⟨rfl, hb1⟩
  have b1 : Below w.heap.size w w1 := ((Below.refl _ _).alloc (Nat.le_refl _) _).trans (hb1.mono (by simp))
  obtain ⟨hc1, hf1⟩ := bcell hb1
  have z1 : w.heap.size < w1.heap.size := bsize hb1 (by simp)
  go_wp2_with fail
  go_ret2
  exact ⟨rfl, b1⟩
set_option maxRecDepth 100000 in
set_option maxHeartbeats 800000 in
theorem int_ill (r : Rb) (w : World) (h : r.okB = false) : Calls Tryd.prog 12 #[.agg #[.int .i64 r.W, .int .u64 (U r.v), .int .u64 (U r.x)]] w fun e w' => e = .returned (.tuple #[.int .i64 0, .bool false]) ∧ Below w.heap.size w w' := by
  obtain ⟨W, V, X⟩ := r
  have c1 := Lib.hid fun w => known_ill ⟨W, V, X⟩ w h
  clear h
  show Calls Tryd.prog 12 #[.agg #[.int .i64 W, .int .u64 (U V), .int .u64 (U X)]] w _
  go_enter Tryd.func12, Tryd.ntmps12
  go_wp2_with fail
  refine (c1.out _).mono ?_
  rintro e w1 ⟨rfl, hb1⟩
  have b1 : Below w.heap.size w w1 := ((Below.refl _ _).alloc (Nat.le_refl _) _).trans (hb1.mono (by simp))
  obtain ⟨hc1, hf1⟩ := bcell hb1
  have z1 : w.heap.size < w1.heap.size := bsize hb1 (by simp)
  go_wp2_with fail
  go_ret2
  exact ⟨rfl, b1⟩
set_option maxRecDepth 100000 in
set_option maxHeartbeats 800000 in
theorem bit_ill (r : Rb) (i : Int) (w : World) (h : r.okB = false) : Calls Tryd.prog 13 #[.agg #[.int .i64 r.W, .int .u64 (U r.v), .int .u64 (U r.x)], .int .i64 i] w fun e w' => e = .returned (.int .u8 0) ∧ Below w.heap.size w w' := by
  obtain ⟨W, V, X⟩ := r
  have c1 := Lib.hid fun w => valid_no W V X w h
  clear h
  show Calls Tryd.prog 13 #[.agg #[.int .i64 W, .int .u64 (U V), .int .u64 (U X)], .int .i64 i] w _
  go_enter Tryd.func13, Tryd.ntmps13
  go_wp2_with fail
  refine (c1.out _).mono ?_
  rintro e w1 ⟨rfl, hb1⟩
  have b1 : Below w.heap.size w w1 := ((Below.refl _ _).alloc (Nat.le_refl _) _).trans (hb1.mono (by simp))
  obtain ⟨hc1, hf1⟩ := bcell hb1
  have z1 : w.heap.size < w1.heap.size := bsize hb1 (by simp)
  go_wp2_with fail
  go_ret
  exact ⟨rfl, b1⟩
set_option maxRecDepth 100000 in
set_option maxHeartbeats 800000 in
theorem true_ill (r : Rb) (w : World) (h : r.okB = false) : Calls Tryd.prog 15 #[.agg #[.int .i64 r.W, .int .u64 (U r.v), .int .u64 (U r.x)]] w fun e w' => e = .returned (.int .i64 0) ∧ Below w.heap.size w w' := by
  obtain ⟨W, V, X⟩ := r
  have c1 := Lib.hid fun w => valid_no W V X w h
  clear h
  show Calls Tryd.prog 15 #[.agg #[.int .i64 W, .int .u64 (U V), .int .u64 (U X)]] w _
  go_enter Tryd.func15, Tryd.ntmps15
  go_wp2_with fail
  refine (c1.out _).mono ?_
  rintro e w1 ⟨rfl, hb1⟩
  have b1 : Below w.heap.size w w1 := ((Below.refl _ _).alloc (Nat.le_refl _) _).trans (hb1.mono (by simp))
  obtain ⟨hc1, hf1⟩ := bcell hb1
  have z1 : w.heap.size < w1.heap.size := bsize hb1 (by simp)
  go_wp2_with fail
  go_ret
  exact ⟨rfl, b1⟩
set_option maxRecDepth 100000 in
set_option maxHeartbeats 800000 in
theorem int_no (n : Nat) (a : Vx) (w : World) (ha : a.ok n) (hx : (a.x == 0#64) = false) : Calls Tryd.prog 12 #[.agg #[.int .i64 n, .int .u64 (U a.v), .int .u64 (U a.x)]] w fun e w' => e = .returned (.tuple #[.int .i64 0, .bool false]) ∧ Below w.heap.size w w' := by
  go_enter Tryd.func12, Tryd.ntmps12
  go_wp2_with fail
  refine (known_no n a _ ha hx).mono ?_
  rintro e w1 ⟨rfl, hb1⟩
  have b1 : Below w.heap.size w w1 := ((Below.refl _ _).alloc (Nat.le_refl _) _).trans (hb1.mono (by simp))
  go_wp2_with fail
  go_ret2
  exact ⟨rfl, b1⟩
set_option maxRecDepth 100000 in
set_option maxHeartbeats 800000 in
theorem bit_lo (n : Nat) (a : Vx) (i : Int) (w : World) (ha : a.ok n) (h : i < 0) : Calls Tryd.prog 13 #[.agg #[.int .i64 n, .int .u64 (U a.v), .int .u64 (U a.x)], .int .i64 i] w fun e w' => e = .returned (.int .u8 0) ∧ Below w.heap.size w w' := by
  go_enter Tryd.func13, Tryd.ntmps13
  go_wp2_with fail
  refine (valid_ok n a.v a.x _ ha).mono ?_
  rintro e w1 ⟨rfl, hb1⟩
  have b1 : Below w.heap.size w w1 := ((Below.refl _ _).alloc (Nat.le_refl _) _).trans (hb1.mono (by simp))
  have k0 : w1.cell? ⟨w.heap.size, 0, none⟩ = some (.int .i64 n) := kcell0 hb1 (by go_simp)
  clear hb1
  go_wp2_with fail
  go_ret
  exact ⟨rfl, b1⟩
set_option maxRecDepth 100000 in
set_option maxHeartbeats 800000 in
theorem bit_hi (n : Nat) (a : Vx) (i : Int) (w : World) (ha : a.ok n) (h : (n : Int) ≤ i) : Calls Tryd.prog 13 #[.agg #[.int .i64 n, .int .u64 (U a.v), .int .u64 (U a.x)], .int .i64 i] w fun e w' => e = .returned (.int .u8 0) ∧ Below w.heap.size w w' := by
  have h0 : ¬ i < 0 := by omega
  go_enter Tryd.func13, Tryd.ntmps13
  go_wp2_with fail
  refine (valid_ok n a.v a.x _ ha).mono ?_
  rintro e w1 ⟨rfl, hb1⟩
  have b1 : Below w.heap.size w w1 := ((Below.refl _ _).alloc (Nat.le_refl _) _).trans (hb1.mono (by simp))
  have k0 : w1.cell? ⟨w.heap.size, 0, none⟩ = some (.int .i64 n) := kcell0 hb1 (by go_simp)
  clear hb1
  go_wp2_with fail
  go_ret
  exact ⟨rfl, b1⟩
set_option maxHeartbeats 400000 in
theorem of_lo (W : Int) (v : BitVec 64) (w : World) (h : W < 1) : Calls Tryd.prog 17 #[.int .i64 W, .int .u64 (U v)] w fun e w' => e = .returned (.agg #[.int .i64 0, .int .u64 0, .int .u64 0]) ∧ Below w.heap.size w w' := by
  go_enter Tryd.func17, Tryd.ntmps17
  go_wp2_with fail
  exact bodyPost_ret (v := .agg #[.int .i64 0, .int .u64 0, .int .u64 0]) (by simp [results, Tryd.results17, go_sem]) rfl ⟨rfl, (by (repeat (first | (with_reducible exact Below.refl _ _) | (with_reducible exact Nat.le_refl _) | (with_reducible refine Below.setCell ?_ ?_ _) | (with_reducible refine Below.alloc ?_ ?_ _) | (with_reducible refine below_drewN ?_ _) | (with_reducible refine Below.drew ?_))) <;> (first | omega | (simp <;> omega)))⟩
set_option maxHeartbeats 400000 in
theorem of_hi (W : Int) (v : BitVec 64) (w : World) (h : 64 < W) : Calls Tryd.prog 17 #[.int .i64 W, .int .u64 (U v)] w fun e w' => e = .returned (.agg #[.int .i64 0, .int .u64 0, .int .u64 0]) ∧ Below w.heap.size w w' := by
  have h0 : ¬ W < 1 := by omega
  go_enter Tryd.func17, Tryd.ntmps17
  go_wp2_with fail
  exact bodyPost_ret (v := .agg #[.int .i64 0, .int .u64 0, .int .u64 0]) (by simp [results, Tryd.results17, go_sem]) rfl ⟨rfl, (by (repeat (first | (with_reducible exact Below.refl _ _) | (with_reducible exact Nat.le_refl _) | (with_reducible refine Below.setCell ?_ ?_ _) | (with_reducible refine Below.alloc ?_ ?_ _) | (with_reducible refine below_drewN ?_ _) | (with_reducible refine Below.drew ?_))) <;> (first | omega | (simp <;> omega)))⟩
theorem of_out (W : Int) (v : BitVec 64) (w : World) (h : ¬ (1 ≤ W ∧ W ≤ 64)) : Calls Tryd.prog 17 #[.int .i64 W, .int .u64 (U v)] w fun e w' => e = .returned (.agg #[.int .i64 0, .int .u64 0, .int .u64 0]) ∧ Below w.heap.size w w' := by
  by_cases h1 : W < 1
  · exact of_lo W v w h1
  · exact of_hi W v w (by omega)
def isSt (c : UInt8) : Bool := c == 48 || c == 49 || c == 120 || c == 122
theorem byte_back (c : UInt8) : ((c.toNat : Int)).toNat.toUInt8 = c := by simp
theorem idx_no (c : UInt8) (h : isSt c = false) : Lib.indexByte [48, 49, 122, 120] c = -1 := by
  simp only [isSt, Bool.or_eq_false_iff, beq_eq_false_iff_ne] at h
  obtain ⟨⟨⟨h1, h2⟩, h3⟩, h4⟩ := h
  simp [Lib.indexByte, Ne.symm h1, Ne.symm h2, Ne.symm h3, Ne.symm h4]
set_option maxRecDepth 100000 in
set_option maxHeartbeats 400000 in
theorem all_no (c : UInt8) (W : Int) (w : World) (h : isSt c = false) : Calls Tryd.prog 18 #[.int .i64 W, .int .u8 (c.toNat : Int)] w fun e w' => e = .returned (.agg #[.int .i64 0, .int .u64 0, .int .u64 0]) ∧ Below w.heap.size w w' := by
  have Hi := Lib.hid (show Lib.indexByte [48, 49, 122, 120] ((c.toNat : Int)).toNat.toUInt8 = -1 from by rw [byte_back]; exact idx_no c h)
  clear h
  go_enter Tryd.func18, Tryd.ntmps18
  go_wp2_with fail
  refine (Tryd.strings_IndexByte _ _ _).mono ?_
  rintro e w' ⟨rfl, rfl⟩
  rw [Hi.out]
  go_wp2_with fail
  exact bodyPost_ret (v := .agg #[.int .i64 0, .int .u64 0, .int .u64 0]) (by simp [results, Tryd.results18, go_sem]) rfl ⟨rfl, (by (repeat (first | (with_reducible exact Below.refl _ _) | (with_reducible exact Nat.le_refl _) | (with_reducible refine Below.setCell ?_ ?_ _) | (with_reducible refine Below.alloc ?_ ?_ _) | (with_reducible refine below_drewN ?_ _) | (with_reducible refine Below.drew ?_))) <;> (first | omega | (simp <;> omega)))⟩
set_option maxRecDepth 100000 in
set_option maxHeartbeats 400000 in
theorem all_lo48 (W : Int) (w : World) (h : W < 1) : Calls Tryd.prog 18 #[.int .i64 W, .int .u8 48] w fun e w' => e = .returned (.agg #[.int .i64 0, .int .u64 0, .int .u64 0]) ∧ Below w.heap.size w w' := by
  have Hi := Lib.hid (show Lib.indexByte [48, 49, 122, 120] (48 : Int).toNat.toUInt8 = 0 from by decide)
  go_enter Tryd.func18, Tryd.ntmps18
  go_wp2_with fail
  refine (Tryd.strings_IndexByte _ _ _).mono ?_
  rintro e w' ⟨rfl, rfl⟩
  rw [Hi.out]
  go_wp2_with fail
  exact bodyPost_ret (v := .agg #[.int .i64 0, .int .u64 0, .int .u64 0]) (by simp [results, Tryd.results18, go_sem]) rfl ⟨rfl, (by (repeat (first | (with_reducible exact Below.refl _ _) | (with_reducible exact Nat.le_refl _) | (with_reducible refine Below.setCell ?_ ?_ _) | (with_reducible refine Below.alloc ?_ ?_ _) | (with_reducible refine below_drewN ?_ _) | (with_reducible refine Below.drew ?_))) <;> (first | omega | (simp <;> omega)))⟩
set_option maxRecDepth 100000 in
set_option maxHeartbeats 400000 in
theorem all_hi48 (W : Int) (w : World) (h : 64 < W) : Calls Tryd.prog 18 #[.int .i64 W, .int .u8 48] w fun e w' => e = .returned (.agg #[.int .i64 0, .int .u64 0, .int .u64 0]) ∧ Below w.heap.size w w' := by
  have Hi := Lib.hid (show Lib.indexByte [48, 49, 122, 120] (48 : Int).toNat.toUInt8 = 0 from by decide)
  have h0 : ¬ W < 1 := by omega
  go_enter Tryd.func18, Tryd.ntmps18
  go_wp2_with fail
  refine (Tryd.strings_IndexByte _ _ _).mono ?_
  rintro e w' ⟨rfl, rfl⟩
  rw [Hi.out]
  go_wp2_with fail
  exact bodyPost_ret (v := .agg #[.int .i64 0, .int .u64 0, .int .u64 0]) (by simp [results, Tryd.results18, go_sem]) rfl ⟨rfl, (by (repeat (first | (with_reducible exact Below.refl _ _) | (with_reducible exact Nat.le_refl _) | (with_reducible refine Below.setCell ?_ ?_ _) | (with_reducible refine Below.alloc ?_ ?_ _) | (with_reducible refine below_drewN ?_ _) | (with_reducible refine Below.drew ?_))) <;> (first | omega | (simp <;> omega)))⟩
set_option maxRecDepth 100000 in
set_option maxHeartbeats 400000 in
theorem all_lo49 (W : Int) (w : World) (h : W < 1) : Calls Tryd.prog 18 #[.int .i64 W, .int .u8 49] w fun e w' => e = .returned (.agg #[.int .i64 0, .int .u64 0, .int .u64 0]) ∧ Below w.heap.size w w' := by
  have Hi := Lib.hid (show Lib.indexByte [48, 49, 122, 120] (49 : Int).toNat.toUInt8 = 1 from by decide)
  go_enter Tryd.func18, Tryd.ntmps18
  go_wp2_with fail
  refine (Tryd.strings_IndexByte _ _ _).mono ?_
  rintro e w' ⟨rfl, rfl⟩
  rw [Hi.out]
  go_wp2_with fail
  exact bodyPost_ret (v := .agg #[.int .i64 0, .int .u64 0, .int .u64 0]) (by simp [results, Tryd.results18, go_sem]) rfl ⟨rfl, (by (repeat (first | (with_reducible exact Below.refl _ _) | (with_reducible exact Nat.le_refl _) | (with_reducible refine Below.setCell ?_ ?_ _) | (with_reducible refine Below.alloc ?_ ?_ _) | (with_reducible refine below_drewN ?_ _) | (with_reducible refine Below.drew ?_))) <;> (first | omega | (simp <;> omega)))⟩
set_option maxRecDepth 100000 in
set_option maxHeartbeats 400000 in
theorem all_hi49 (W : Int) (w : World) (h : 64 < W) : Calls Tryd.prog 18 #[.int .i64 W, .int .u8 49] w fun e w' => e = .returned (.agg #[.int .i64 0, .int .u64 0, .int .u64 0]) ∧ Below w.heap.size w w' := by
  have Hi := Lib.hid (show Lib.indexByte [48, 49, 122, 120] (49 : Int).toNat.toUInt8 = 1 from by decide)
  have h0 : ¬ W < 1 := by omega
  go_enter Tryd.func18, Tryd.ntmps18
  go_wp2_with fail
  refine (Tryd.strings_IndexByte _ _ _).mono ?_
  rintro e w' ⟨rfl, rfl⟩
  rw [Hi.out]
  go_wp2_with fail
  exact bodyPost_ret (v := .agg #[.int .i64 0, .int .u64 0, .int .u64 0]) (by simp [results, Tryd.results18, go_sem]) rfl ⟨rfl, (by (repeat (first | (with_reducible exact Below.refl _ _) | (with_reducible exact Nat.le_refl _) | (with_reducible refine Below.setCell ?_ ?_ _) | (with_reducible refine Below.alloc ?_ ?_ _) | (with_reducible refine below_drewN ?_ _) | (with_reducible refine Below.drew ?_))) <;> (first | omega | (simp <;> omega)))⟩
set_option maxRecDepth 100000 in
set_option maxHeartbeats 400000 in
theorem all_lo122 (W : Int) (w : World) (h : W < 1) : Calls Tryd.prog 18 #[.int .i64 W, .int .u8 122] w fun e w' => e = .returned (.agg #[.int .i64 0, .int .u64 0, .int .u64 0]) ∧ Below w.heap.size w w' := by
  have Hi := Lib.hid (show Lib.indexByte [48, 49, 122, 120] (122 : Int).toNat.toUInt8 = 2 from by decide)
  go_enter Tryd.func18, Tryd.ntmps18
  go_wp2_with fail
  refine (Tryd.strings_IndexByte _ _ _).mono ?_
  rintro e w' ⟨rfl, rfl⟩
  rw [Hi.out]
  go_wp2_with fail
  exact bodyPost_ret (v := .agg #[.int .i64 0, .int .u64 0, .int .u64 0]) (by simp [results, Tryd.results18, go_sem]) rfl ⟨rfl, (by (repeat (first | (with_reducible exact Below.refl _ _) | (with_reducible exact Nat.le_refl _) | (with_reducible refine Below.setCell ?_ ?_ _) | (with_reducible refine Below.alloc ?_ ?_ _) | (with_reducible refine below_drewN ?_ _) | (with_reducible refine Below.drew ?_))) <;> (first | omega | (simp <;> omega)))⟩
set_option maxRecDepth 100000 in
set_option maxHeartbeats 400000 in
theorem all_hi122 (W : Int) (w : World) (h : 64 < W) : Calls Tryd.prog 18 #[.int .i64 W, .int .u8 122] w fun e w' => e = .returned (.agg #[.int .i64 0, .int .u64 0, .int .u64 0]) ∧ Below w.heap.size w w' := by
  have Hi := Lib.hid (show Lib.indexByte [48, 49, 122, 120] (122 : Int).toNat.toUInt8 = 2 from by decide)
  have h0 : ¬ W < 1 := by omega
  go_enter Tryd.func18, Tryd.ntmps18
  go_wp2_with fail
  refine (Tryd.strings_IndexByte _ _ _).mono ?_
  rintro e w' ⟨rfl, rfl⟩
  rw [Hi.out]
  go_wp2_with fail
  exact bodyPost_ret (v := .agg #[.int .i64 0, .int .u64 0, .int .u64 0]) (by simp [results, Tryd.results18, go_sem]) rfl ⟨rfl, (by (repeat (first | (with_reducible exact Below.refl _ _) | (with_reducible exact Nat.le_refl _) | (with_reducible refine Below.setCell ?_ ?_ _) | (with_reducible refine Below.alloc ?_ ?_ _) | (with_reducible refine below_drewN ?_ _) | (with_reducible refine Below.drew ?_))) <;> (first | omega | (simp <;> omega)))⟩
set_option maxRecDepth 100000 in
set_option maxHeartbeats 400000 in
theorem all_lo120 (W : Int) (w : World) (h : W < 1) : Calls Tryd.prog 18 #[.int .i64 W, .int .u8 120] w fun e w' => e = .returned (.agg #[.int .i64 0, .int .u64 0, .int .u64 0]) ∧ Below w.heap.size w w' := by
  have Hi := Lib.hid (show Lib.indexByte [48, 49, 122, 120] (120 : Int).toNat.toUInt8 = 3 from by decide)
  go_enter Tryd.func18, Tryd.ntmps18
  go_wp2_with fail
  refine (Tryd.strings_IndexByte _ _ _).mono ?_
  rintro e w' ⟨rfl, rfl⟩
  rw [Hi.out]
  go_wp2_with fail
  exact bodyPost_ret (v := .agg #[.int .i64 0, .int .u64 0, .int .u64 0]) (by simp [results, Tryd.results18, go_sem]) rfl ⟨rfl, (by (repeat (first | (with_reducible exact Below.refl _ _) | (with_reducible exact Nat.le_refl _) | (with_reducible refine Below.setCell ?_ ?_ _) | (with_reducible refine Below.alloc ?_ ?_ _) | (with_reducible refine below_drewN ?_ _) | (with_reducible refine Below.drew ?_))) <;> (first | omega | (simp <;> omega)))⟩
set_option maxRecDepth 100000 in
set_option maxHeartbeats 400000 in
theorem all_hi120 (W : Int) (w : World) (h : 64 < W) : Calls Tryd.prog 18 #[.int .i64 W, .int .u8 120] w fun e w' => e = .returned (.agg #[.int .i64 0, .int .u64 0, .int .u64 0]) ∧ Below w.heap.size w w' := by
  have Hi := Lib.hid (show Lib.indexByte [48, 49, 122, 120] (120 : Int).toNat.toUInt8 = 3 from by decide)
  have h0 : ¬ W < 1 := by omega
  go_enter Tryd.func18, Tryd.ntmps18
  go_wp2_with fail
  refine (Tryd.strings_IndexByte _ _ _).mono ?_
  rintro e w' ⟨rfl, rfl⟩
  rw [Hi.out]
  go_wp2_with fail
  exact bodyPost_ret (v := .agg #[.int .i64 0, .int .u64 0, .int .u64 0]) (by simp [results, Tryd.results18, go_sem]) rfl ⟨rfl, (by (repeat (first | (with_reducible exact Below.refl _ _) | (with_reducible exact Nat.le_refl _) | (with_reducible refine Below.setCell ?_ ?_ _) | (with_reducible refine Below.alloc ?_ ?_ _) | (with_reducible refine below_drewN ?_ _) | (with_reducible refine Below.drew ?_))) <;> (first | omega | (simp <;> omega)))⟩
theorem all_out (c : UInt8) (W : Int) (w : World) (h : ¬ (1 ≤ W ∧ W ≤ 64)) : Calls Tryd.prog 18 #[.int .i64 W, .int .u8 (c.toNat : Int)] w fun e w' => e = .returned (.agg #[.int .i64 0, .int .u64 0, .int .u64 0]) ∧ Below w.heap.size w w' := by
  cases hs : isSt c
  · exact all_no c W w hs
  · simp only [isSt, Bool.or_eq_true, beq_iff_eq] at hs
    rcases hs with ((rfl | rfl) | rfl) | rfl <;> by_cases h1 : W < 1
    · exact all_lo48 W w h1
    · exact all_hi48 W w (by omega)
    · exact all_lo49 W w h1
    · exact all_hi49 W w (by omega)
    · exact all_lo120 W w h1
    · exact all_hi120 W w (by omega)
    · exact all_lo122 W w h1
    · exact all_hi122 W w (by omega)
end Go.Proofs.YtdpmojkpfnkcdaaDoor
