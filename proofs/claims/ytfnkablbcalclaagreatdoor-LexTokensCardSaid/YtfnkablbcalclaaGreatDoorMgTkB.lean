/- The reference's token: quoted names.
   The reference's token: strings and numbers. -/
import Derived.Test.YtfnkablbcalclaaGreatDoorMgTkA
namespace Go.Proofs.YtfnkablbcalclaaGreatDoor
open Go Go.RowKit
set_option linter.unusedVariables false
set_option maxRecDepth 100000 in
set_option maxHeartbeats 4000000 in
theorem token_quo_no (s : ByteArray) (m : Nat) (hs : s.size ≤ 100000) (hs1 : 1 ≤ s.size) (HL : Hid (isL (gb s 0) = false)) (h92 : gb s 0 = 92) (hm : Hid (span inQ (s.extract 1 s.size) = m)) (hm0 : m = 0) (w : World) :
    Calls Tryz.prog 10 #[.string s] w fun e w' => e = .returned (.tuple #[.agg #[.int .i64 0, .int .i64 0, .int .i64 0, .string ⟨#[]⟩, .bool false, .int .i64 0, .int .u64 0, .int .u64 0, .bool false], .int .i64 0, .int .i64 10]) ∧ Below w.heap.size w w' := by
  have hs0 : 0 < s.size := by omega
  have hs1i : (1 : Int) ≤ (s.size : Int) := by omega
  have hb : s[0].toNat = gb s 0 := gb_at s 0 hs0
  have hg := gb_le s 0
  obtain ⟨NW, hNW⟩ : ∃ NW, span inW s = NW := ⟨_, rfl⟩
  have hNs : NW ≤ s.size := by rw [← hNW]; exact span_le _ _
  have hR := fun w1 => run_W s (by omega) w1
  rw [hNW] at hR
  have hI := fun w1 => isL_r (gb s 0) hg w1
  rw [HL.out] at hI
  have hm3 : (0 : Int) ≤ 1 + (m : Int) := by omega
  have hQ := fun w1 => run_Q (s.extract 1 s.size) (by simp; omega) w1
  rw [hm.out] at hQ
  have HQ := Lib.hid hQ
  have hml : m ≤ (s.extract 1 s.size).size := by rw [← hm.out]; exact span_le _ _
  have hml2 : 1 + m ≤ s.size := by simp at hml; omega
  clear hQ hm hml
  rw [h92] at hb hI
  subst hm0
  have HR := Lib.hid hR
  have HI := Lib.hid hI
  clear hR hI HL
  go_enter Tryz.func10, Tryz.ntmps10
  go_upto_region 1 with fail
  obtain ⟨W1, hW1⟩ : ∃ W, W = w.alloc (Obj.cells #[Value.int IntKind.i64 0, Value.int IntKind.i64 0, Value.int IntKind.i64 0, Value.string { data := #[] }, Value.bool false, Value.int IntKind.i64 0, Value.int IntKind.u64 0, Value.int IntKind.u64 0, Value.bool false] 32) := ⟨_, rfl⟩
  have b0 : Below w.heap.size w W1 := by rw [hW1]; exact (Below.refl _ _).alloc (Nat.le_refl _) _
  have T0 : TB W1 w.heap.size 0 0 0 ⟨#[]⟩ false 0 0 0 false := by rw [hW1]; exact TB.new w 0 0 0 ⟨#[]⟩ false 0 0 0 false
  rw [← hW1]
  clear hW1
  have hlt := T0.lt
  go_upto_region 9 with (first | (go_at_call 15; refine (HR.out _).mono ?_; rintro e w1 ⟨rfl, rfl⟩) | (go_at_call 17; refine (HI.out _).mono ?_; rintro e w1 ⟨rfl, rfl⟩))
  clear HR HI
  go_upto_region 11 with (go_at_call 15; refine (HQ.out _).mono ?_; rintro e w2 ⟨rfl, hb2⟩)
  have T2 := T0.below hb2
  have b2 : Below w.heap.size w w2 := b0.trans (hb2.mono b0.size)
  obtain ⟨x0, x1, x2, x3, x4, x5, x6, x7, x8, xf⟩ := id T2
  clear T0 hb2
  go_wp2_with fail
  obtain ⟨q0, q1, q2, q3, q4, q5, q6, q7, q8, -⟩ := T2.set 0 0 0 ⟨#[]⟩ false 0 0 0 false
  unfold setTk at q0 q1 q2 q3 q4 q5 q6 q7 q8
  exact bodyPost_ret (v := .tuple #[.agg #[.int .i64 0, .int .i64 0, .int .i64 0, .string ⟨#[]⟩, .bool false, .int .i64 0, .int .u64 0, .int .u64 0, .bool false], .int .i64 0, .int .i64 10]) (by simp [results, Tryz.results10, go_sem, q0, q1, q2, q3, q4, q5, q6, q7, q8]) rfl ⟨rfl, below_setTk b2 (Nat.le_refl _) _ _ _ _ _ _ _ _ _⟩
set_option maxRecDepth 100000 in
set_option maxHeartbeats 4000000 in
theorem token_quo_ill (s : ByteArray) (m : Nat) (hs : s.size ≤ 100000) (hs1 : 1 ≤ s.size) (HL : Hid (isL (gb s 0) = false)) (h92 : gb s 0 = 92) (hm : Hid (span inQ (s.extract 1 s.size) = m)) (hm0 : 1 ≤ m) (hl : 1 + m < s.size) (k32 : s[1 + m].toNat ≠ 32) (k9 : s[1 + m].toNat ≠ 9) (k10 : s[1 + m].toNat ≠ 10) (w : World) :
    Calls Tryz.prog 10 #[.string s] w fun e w' => e = .returned (.tuple #[.agg #[.int .i64 0, .int .i64 0, .int .i64 0, .string ⟨#[]⟩, .bool false, .int .i64 0, .int .u64 0, .int .u64 0, .bool false], .int .i64 0, .int .i64 10]) ∧ Below w.heap.size w w' := by
  have hs0 : 0 < s.size := by omega
  have hs1i : (1 : Int) ≤ (s.size : Int) := by omega
  have hb : s[0].toNat = gb s 0 := gb_at s 0 hs0
  have hg := gb_le s 0
  obtain ⟨NW, hNW⟩ : ∃ NW, span inW s = NW := ⟨_, rfl⟩
  have hNs : NW ≤ s.size := by rw [← hNW]; exact span_le _ _
  have hR := fun w1 => run_W s (by omega) w1
  rw [hNW] at hR
  have hI := fun w1 => isL_r (gb s 0) hg w1
  rw [HL.out] at hI
  have hm3 : (0 : Int) ≤ 1 + (m : Int) := by omega
  have hQ := fun w1 => run_Q (s.extract 1 s.size) (by simp; omega) w1
  rw [hm.out] at hQ
  have HQ := Lib.hid hQ
  have hml : m ≤ (s.extract 1 s.size).size := by rw [← hm.out]; exact span_le _ _
  have hml2 : 1 + m ≤ s.size := by simp at hml; omega
  clear hQ hm hml
  rw [h92] at hb hI
  have hm1 : ((1 : Int) + (m : Int) == 1) = false := beq_eq_false_iff_ne.2 (by omega)
  have hm2 : (1 : Int) + (m : Int) < (s.size : Int) := by omega
  have e32 : ((s[1 + m].toNat : Int) == 32) = false := beq_eq_false_iff_ne.2 (by omega)
  have e9 : ((s[1 + m].toNat : Int) == 9) = false := beq_eq_false_iff_ne.2 (by omega)
  have e10 : ((s[1 + m].toNat : Int) == 10) = false := beq_eq_false_iff_ne.2 (by omega)
  have f32 : ((s[1 + m].toNat : Int) != 32) = true := by rw [bne, e32]; rfl
  have f9 : ((s[1 + m].toNat : Int) != 9) = true := by rw [bne, e9]; rfl
  have f10 : ((s[1 + m].toNat : Int) != 10) = true := by rw [bne, e10]; rfl
  have HR := Lib.hid hR
  have HI := Lib.hid hI
  clear hR hI HL
  go_enter Tryz.func10, Tryz.ntmps10
  go_upto_region 1 with fail
  obtain ⟨W1, hW1⟩ : ∃ W, W = w.alloc (Obj.cells #[Value.int IntKind.i64 0, Value.int IntKind.i64 0, Value.int IntKind.i64 0, Value.string { data := #[] }, Value.bool false, Value.int IntKind.i64 0, Value.int IntKind.u64 0, Value.int IntKind.u64 0, Value.bool false] 32) := ⟨_, rfl⟩
  have b0 : Below w.heap.size w W1 := by rw [hW1]; exact (Below.refl _ _).alloc (Nat.le_refl _) _
  have T0 : TB W1 w.heap.size 0 0 0 ⟨#[]⟩ false 0 0 0 false := by rw [hW1]; exact TB.new w 0 0 0 ⟨#[]⟩ false 0 0 0 false
  rw [← hW1]
  clear hW1
  have hlt := T0.lt
  go_upto_region 9 with (first | (go_at_call 15; refine (HR.out _).mono ?_; rintro e w1 ⟨rfl, rfl⟩) | (go_at_call 17; refine (HI.out _).mono ?_; rintro e w1 ⟨rfl, rfl⟩))
  clear HR HI
  go_upto_region 11 with (go_at_call 15; refine (HQ.out _).mono ?_; rintro e w2 ⟨rfl, hb2⟩)
  have T2 := T0.below hb2
  have b2 : Below w.heap.size w w2 := b0.trans (hb2.mono b0.size)
  obtain ⟨x0, x1, x2, x3, x4, x5, x6, x7, x8, xf⟩ := id T2
  clear T0 hb2
  go_wp2_with fail
  obtain ⟨q0, q1, q2, q3, q4, q5, q6, q7, q8, -⟩ := T2.set 0 0 0 ⟨#[]⟩ false 0 0 0 false
  unfold setTk at q0 q1 q2 q3 q4 q5 q6 q7 q8
  exact bodyPost_ret (v := .tuple #[.agg #[.int .i64 0, .int .i64 0, .int .i64 0, .string ⟨#[]⟩, .bool false, .int .i64 0, .int .u64 0, .int .u64 0, .bool false], .int .i64 0, .int .i64 10]) (by simp [results, Tryz.results10, go_sem, q0, q1, q2, q3, q4, q5, q6, q7, q8]) rfl ⟨rfl, below_setTk b2 (Nat.le_refl _) _ _ _ _ _ _ _ _ _⟩
set_option maxRecDepth 100000 in
set_option maxHeartbeats 4000000 in
theorem token_quo_ok_end (s : ByteArray) (m : Nat) (hs : s.size ≤ 100000) (hs1 : 1 ≤ s.size) (HL : Hid (isL (gb s 0) = false)) (h92 : gb s 0 = 92) (hm : Hid (span inQ (s.extract 1 s.size) = m)) (hm0 : 1 ≤ m) (h40 : m ≤ 40) (hl : 1 + m = s.size) (w : World) :
    Calls Tryz.prog 10 #[.string s] w fun e w' => e = .returned (.tuple #[.agg #[.int .i64 1, .int .i64 0, .int .i64 0, .string (s.extract 1 (1 + m)), .bool true, .int .i64 0, .int .u64 0, .int .u64 0, .bool false], .int .i64 (1 + m : Nat), .int .i64 0]) ∧ Below w.heap.size w w' := by
  have hs0 : 0 < s.size := by omega
  have hs1i : (1 : Int) ≤ (s.size : Int) := by omega
  have hb : s[0].toNat = gb s 0 := gb_at s 0 hs0
  have hg := gb_le s 0
  obtain ⟨NW, hNW⟩ : ∃ NW, span inW s = NW := ⟨_, rfl⟩
  have hNs : NW ≤ s.size := by rw [← hNW]; exact span_le _ _
  have hR := fun w1 => run_W s (by omega) w1
  rw [hNW] at hR
  have hI := fun w1 => isL_r (gb s 0) hg w1
  rw [HL.out] at hI
  have hm3 : (0 : Int) ≤ 1 + (m : Int) := by omega
  have hQ := fun w1 => run_Q (s.extract 1 s.size) (by simp; omega) w1
  rw [hm.out] at hQ
  have HQ := Lib.hid hQ
  have hml : m ≤ (s.extract 1 s.size).size := by rw [← hm.out]; exact span_le _ _
  have hml2 : 1 + m ≤ s.size := by simp at hml; omega
  clear hQ hm hml
  rw [h92] at hb hI
  have hm1 : ((1 : Int) + (m : Int) == 1) = false := beq_eq_false_iff_ne.2 (by omega)
  have h41 : ¬ (41 : Int) < 1 + (m : Int) := by omega
  have hw1 : (1 : Int) ≤ 1 + (m : Int) := by omega
  have hw2 : (1 : Int) + (m : Int) ≤ (s.size : Int) := by omega
  have hm2 : ¬ (1 : Int) + (m : Int) < (s.size : Int) := by omega
  clear hl
  have HR := Lib.hid hR
  have HI := Lib.hid hI
  clear hR hI HL
  go_enter Tryz.func10, Tryz.ntmps10
  go_upto_region 1 with fail
  obtain ⟨W1, hW1⟩ : ∃ W, W = w.alloc (Obj.cells #[Value.int IntKind.i64 0, Value.int IntKind.i64 0, Value.int IntKind.i64 0, Value.string { data := #[] }, Value.bool false, Value.int IntKind.i64 0, Value.int IntKind.u64 0, Value.int IntKind.u64 0, Value.bool false] 32) := ⟨_, rfl⟩
  have b0 : Below w.heap.size w W1 := by rw [hW1]; exact (Below.refl _ _).alloc (Nat.le_refl _) _
  have T0 : TB W1 w.heap.size 0 0 0 ⟨#[]⟩ false 0 0 0 false := by rw [hW1]; exact TB.new w 0 0 0 ⟨#[]⟩ false 0 0 0 false
  rw [← hW1]
  clear hW1
  have hlt := T0.lt
  go_upto_region 9 with (first | (go_at_call 15; refine (HR.out _).mono ?_; rintro e w1 ⟨rfl, rfl⟩) | (go_at_call 17; refine (HI.out _).mono ?_; rintro e w1 ⟨rfl, rfl⟩))
  clear HR HI
  go_upto_region 11 with (go_at_call 15; refine (HQ.out _).mono ?_; rintro e w2 ⟨rfl, hb2⟩)
  have T2 := T0.below hb2
  have b2 : Below w.heap.size w w2 := b0.trans (hb2.mono b0.size)
  obtain ⟨x0, x1, x2, x3, x4, x5, x6, x7, x8, xf⟩ := id T2
  clear T0 hb2
  go_wp2_with fail
  obtain ⟨q0, q1, q2, q3, q4, q5, q6, q7, q8, -⟩ := T2.set 1 0 0 (s.extract 1 (1 + m)) true 0 0 0 false
  unfold setTk at q0 q1 q2 q3 q4 q5 q6 q7 q8
  exact bodyPost_ret (v := .tuple #[.agg #[.int .i64 1, .int .i64 0, .int .i64 0, .string (s.extract 1 (1 + m)), .bool true, .int .i64 0, .int .u64 0, .int .u64 0, .bool false], .int .i64 (1 + m : Nat), .int .i64 0]) (by simp [results, Tryz.results10, go_sem, q0, q1, q2, q3, q4, q5, q6, q7, q8]) rfl ⟨by simp, below_setTk b2 (Nat.le_refl _) _ _ _ _ _ _ _ _ _⟩
set_option maxRecDepth 100000 in
set_option maxHeartbeats 4000000 in
theorem token_quo_big_end (s : ByteArray) (m : Nat) (hs : s.size ≤ 100000) (hs1 : 1 ≤ s.size) (HL : Hid (isL (gb s 0) = false)) (h92 : gb s 0 = 92) (hm : Hid (span inQ (s.extract 1 s.size) = m)) (hm0 : 1 ≤ m) (h40 : 40 < m) (hl : 1 + m = s.size) (w : World) :
    Calls Tryz.prog 10 #[.string s] w fun e w' => e = .returned (.tuple #[.agg #[.int .i64 0, .int .i64 0, .int .i64 0, .string ⟨#[]⟩, .bool false, .int .i64 0, .int .u64 0, .int .u64 0, .bool false], .int .i64 0, .int .i64 3]) ∧ Below w.heap.size w w' := by
  have hs0 : 0 < s.size := by omega
  have hs1i : (1 : Int) ≤ (s.size : Int) := by omega
  have hb : s[0].toNat = gb s 0 := gb_at s 0 hs0
  have hg := gb_le s 0
  obtain ⟨NW, hNW⟩ : ∃ NW, span inW s = NW := ⟨_, rfl⟩
  have hNs : NW ≤ s.size := by rw [← hNW]; exact span_le _ _
  have hR := fun w1 => run_W s (by omega) w1
  rw [hNW] at hR
  have hI := fun w1 => isL_r (gb s 0) hg w1
  rw [HL.out] at hI
  have hm3 : (0 : Int) ≤ 1 + (m : Int) := by omega
  have hQ := fun w1 => run_Q (s.extract 1 s.size) (by simp; omega) w1
  rw [hm.out] at hQ
  have HQ := Lib.hid hQ
  have hml : m ≤ (s.extract 1 s.size).size := by rw [← hm.out]; exact span_le _ _
  have hml2 : 1 + m ≤ s.size := by simp at hml; omega
  clear hQ hm hml
  rw [h92] at hb hI
  have hm1 : ((1 : Int) + (m : Int) == 1) = false := beq_eq_false_iff_ne.2 (by omega)
  have h41 : (41 : Int) < 1 + (m : Int) := by omega
  have hm2 : ¬ (1 : Int) + (m : Int) < (s.size : Int) := by omega
  clear hl
  have HR := Lib.hid hR
  have HI := Lib.hid hI
  clear hR hI HL
  go_enter Tryz.func10, Tryz.ntmps10
  go_upto_region 1 with fail
  obtain ⟨W1, hW1⟩ : ∃ W, W = w.alloc (Obj.cells #[Value.int IntKind.i64 0, Value.int IntKind.i64 0, Value.int IntKind.i64 0, Value.string { data := #[] }, Value.bool false, Value.int IntKind.i64 0, Value.int IntKind.u64 0, Value.int IntKind.u64 0, Value.bool false] 32) := ⟨_, rfl⟩
  have b0 : Below w.heap.size w W1 := by rw [hW1]; exact (Below.refl _ _).alloc (Nat.le_refl _) _
  have T0 : TB W1 w.heap.size 0 0 0 ⟨#[]⟩ false 0 0 0 false := by rw [hW1]; exact TB.new w 0 0 0 ⟨#[]⟩ false 0 0 0 false
  rw [← hW1]
  clear hW1
  have hlt := T0.lt
  go_upto_region 9 with (first | (go_at_call 15; refine (HR.out _).mono ?_; rintro e w1 ⟨rfl, rfl⟩) | (go_at_call 17; refine (HI.out _).mono ?_; rintro e w1 ⟨rfl, rfl⟩))
  clear HR HI
  go_upto_region 11 with (go_at_call 15; refine (HQ.out _).mono ?_; rintro e w2 ⟨rfl, hb2⟩)
  have T2 := T0.below hb2
  have b2 : Below w.heap.size w w2 := b0.trans (hb2.mono b0.size)
  obtain ⟨x0, x1, x2, x3, x4, x5, x6, x7, x8, xf⟩ := id T2
  clear T0 hb2
  go_wp2_with fail
  obtain ⟨q0, q1, q2, q3, q4, q5, q6, q7, q8, -⟩ := T2.set 0 0 0 ⟨#[]⟩ false 0 0 0 false
  unfold setTk at q0 q1 q2 q3 q4 q5 q6 q7 q8
  exact bodyPost_ret (v := .tuple #[.agg #[.int .i64 0, .int .i64 0, .int .i64 0, .string ⟨#[]⟩, .bool false, .int .i64 0, .int .u64 0, .int .u64 0, .bool false], .int .i64 0, .int .i64 3]) (by simp [results, Tryz.results10, go_sem, q0, q1, q2, q3, q4, q5, q6, q7, q8]) rfl ⟨rfl, below_setTk b2 (Nat.le_refl _) _ _ _ _ _ _ _ _ _⟩
set_option maxRecDepth 100000 in
set_option maxHeartbeats 4000000 in
theorem token_quo_ok_b32 (s : ByteArray) (m : Nat) (hs : s.size ≤ 100000) (hs1 : 1 ≤ s.size) (HL : Hid (isL (gb s 0) = false)) (h92 : gb s 0 = 92) (hm : Hid (span inQ (s.extract 1 s.size) = m)) (hm0 : 1 ≤ m) (h40 : m ≤ 40) (hl : 1 + m < s.size) (hat : s[1 + m].toNat = 32) (w : World) :
    Calls Tryz.prog 10 #[.string s] w fun e w' => e = .returned (.tuple #[.agg #[.int .i64 1, .int .i64 0, .int .i64 0, .string (s.extract 1 (1 + m)), .bool true, .int .i64 0, .int .u64 0, .int .u64 0, .bool false], .int .i64 (1 + m : Nat), .int .i64 0]) ∧ Below w.heap.size w w' := by
  have hs0 : 0 < s.size := by omega
  have hs1i : (1 : Int) ≤ (s.size : Int) := by omega
  have hb : s[0].toNat = gb s 0 := gb_at s 0 hs0
  have hg := gb_le s 0
  obtain ⟨NW, hNW⟩ : ∃ NW, span inW s = NW := ⟨_, rfl⟩
  have hNs : NW ≤ s.size := by rw [← hNW]; exact span_le _ _
  have hR := fun w1 => run_W s (by omega) w1
  rw [hNW] at hR
  have hI := fun w1 => isL_r (gb s 0) hg w1
  rw [HL.out] at hI
  have hm3 : (0 : Int) ≤ 1 + (m : Int) := by omega
  have hQ := fun w1 => run_Q (s.extract 1 s.size) (by simp; omega) w1
  rw [hm.out] at hQ
  have HQ := Lib.hid hQ
  have hml : m ≤ (s.extract 1 s.size).size := by rw [← hm.out]; exact span_le _ _
  have hml2 : 1 + m ≤ s.size := by simp at hml; omega
  clear hQ hm hml
  rw [h92] at hb hI
  have hm1 : ((1 : Int) + (m : Int) == 1) = false := beq_eq_false_iff_ne.2 (by omega)
  have h41 : ¬ (41 : Int) < 1 + (m : Int) := by omega
  have hw1 : (1 : Int) ≤ 1 + (m : Int) := by omega
  have hw2 : (1 : Int) + (m : Int) ≤ (s.size : Int) := by omega
  have hm2 : (1 : Int) + (m : Int) < (s.size : Int) := by omega
  have HR := Lib.hid hR
  have HI := Lib.hid hI
  clear hR hI HL
  go_enter Tryz.func10, Tryz.ntmps10
  go_upto_region 1 with fail
  obtain ⟨W1, hW1⟩ : ∃ W, W = w.alloc (Obj.cells #[Value.int IntKind.i64 0, Value.int IntKind.i64 0, Value.int IntKind.i64 0, Value.string { data := #[] }, Value.bool false, Value.int IntKind.i64 0, Value.int IntKind.u64 0, Value.int IntKind.u64 0, Value.bool false] 32) := ⟨_, rfl⟩
  have b0 : Below w.heap.size w W1 := by rw [hW1]; exact (Below.refl _ _).alloc (Nat.le_refl _) _
  have T0 : TB W1 w.heap.size 0 0 0 ⟨#[]⟩ false 0 0 0 false := by rw [hW1]; exact TB.new w 0 0 0 ⟨#[]⟩ false 0 0 0 false
  rw [← hW1]
  clear hW1
  have hlt := T0.lt
  go_upto_region 9 with (first | (go_at_call 15; refine (HR.out _).mono ?_; rintro e w1 ⟨rfl, rfl⟩) | (go_at_call 17; refine (HI.out _).mono ?_; rintro e w1 ⟨rfl, rfl⟩))
  clear HR HI
  go_upto_region 11 with (go_at_call 15; refine (HQ.out _).mono ?_; rintro e w2 ⟨rfl, hb2⟩)
  have T2 := T0.below hb2
  have b2 : Below w.heap.size w w2 := b0.trans (hb2.mono b0.size)
  obtain ⟨x0, x1, x2, x3, x4, x5, x6, x7, x8, xf⟩ := id T2
  clear T0 hb2
  go_wp2_with fail
  obtain ⟨q0, q1, q2, q3, q4, q5, q6, q7, q8, -⟩ := T2.set 1 0 0 (s.extract 1 (1 + m)) true 0 0 0 false
  unfold setTk at q0 q1 q2 q3 q4 q5 q6 q7 q8
  exact bodyPost_ret (v := .tuple #[.agg #[.int .i64 1, .int .i64 0, .int .i64 0, .string (s.extract 1 (1 + m)), .bool true, .int .i64 0, .int .u64 0, .int .u64 0, .bool false], .int .i64 (1 + m : Nat), .int .i64 0]) (by simp [results, Tryz.results10, go_sem, q0, q1, q2, q3, q4, q5, q6, q7, q8]) rfl ⟨by simp, below_setTk b2 (Nat.le_refl _) _ _ _ _ _ _ _ _ _⟩
set_option maxRecDepth 100000 in
set_option maxHeartbeats 4000000 in
theorem token_quo_big_b32 (s : ByteArray) (m : Nat) (hs : s.size ≤ 100000) (hs1 : 1 ≤ s.size) (HL : Hid (isL (gb s 0) = false)) (h92 : gb s 0 = 92) (hm : Hid (span inQ (s.extract 1 s.size) = m)) (hm0 : 1 ≤ m) (h40 : 40 < m) (hl : 1 + m < s.size) (hat : s[1 + m].toNat = 32) (w : World) :
    Calls Tryz.prog 10 #[.string s] w fun e w' => e = .returned (.tuple #[.agg #[.int .i64 0, .int .i64 0, .int .i64 0, .string ⟨#[]⟩, .bool false, .int .i64 0, .int .u64 0, .int .u64 0, .bool false], .int .i64 0, .int .i64 3]) ∧ Below w.heap.size w w' := by
  have hs0 : 0 < s.size := by omega
  have hs1i : (1 : Int) ≤ (s.size : Int) := by omega
  have hb : s[0].toNat = gb s 0 := gb_at s 0 hs0
  have hg := gb_le s 0
  obtain ⟨NW, hNW⟩ : ∃ NW, span inW s = NW := ⟨_, rfl⟩
  have hNs : NW ≤ s.size := by rw [← hNW]; exact span_le _ _
  have hR := fun w1 => run_W s (by omega) w1
  rw [hNW] at hR
  have hI := fun w1 => isL_r (gb s 0) hg w1
  rw [HL.out] at hI
  have hm3 : (0 : Int) ≤ 1 + (m : Int) := by omega
  have hQ := fun w1 => run_Q (s.extract 1 s.size) (by simp; omega) w1
  rw [hm.out] at hQ
  have HQ := Lib.hid hQ
  have hml : m ≤ (s.extract 1 s.size).size := by rw [← hm.out]; exact span_le _ _
  have hml2 : 1 + m ≤ s.size := by simp at hml; omega
  clear hQ hm hml
  rw [h92] at hb hI
  have hm1 : ((1 : Int) + (m : Int) == 1) = false := beq_eq_false_iff_ne.2 (by omega)
  have h41 : (41 : Int) < 1 + (m : Int) := by omega
  have hm2 : (1 : Int) + (m : Int) < (s.size : Int) := by omega
  have HR := Lib.hid hR
  have HI := Lib.hid hI
  clear hR hI HL
  go_enter Tryz.func10, Tryz.ntmps10
  go_upto_region 1 with fail
  obtain ⟨W1, hW1⟩ : ∃ W, W = w.alloc (Obj.cells #[Value.int IntKind.i64 0, Value.int IntKind.i64 0, Value.int IntKind.i64 0, Value.string { data := #[] }, Value.bool false, Value.int IntKind.i64 0, Value.int IntKind.u64 0, Value.int IntKind.u64 0, Value.bool false] 32) := ⟨_, rfl⟩
  have b0 : Below w.heap.size w W1 := by rw [hW1]; exact (Below.refl _ _).alloc (Nat.le_refl _) _
  have T0 : TB W1 w.heap.size 0 0 0 ⟨#[]⟩ false 0 0 0 false := by rw [hW1]; exact TB.new w 0 0 0 ⟨#[]⟩ false 0 0 0 false
  rw [← hW1]
  clear hW1
  have hlt := T0.lt
  go_upto_region 9 with (first | (go_at_call 15; refine (HR.out _).mono ?_; rintro e w1 ⟨rfl, rfl⟩) | (go_at_call 17; refine (HI.out _).mono ?_; rintro e w1 ⟨rfl, rfl⟩))
  clear HR HI
  go_upto_region 11 with (go_at_call 15; refine (HQ.out _).mono ?_; rintro e w2 ⟨rfl, hb2⟩)
  have T2 := T0.below hb2
  have b2 : Below w.heap.size w w2 := b0.trans (hb2.mono b0.size)
  obtain ⟨x0, x1, x2, x3, x4, x5, x6, x7, x8, xf⟩ := id T2
  clear T0 hb2
  go_wp2_with fail
  obtain ⟨q0, q1, q2, q3, q4, q5, q6, q7, q8, -⟩ := T2.set 0 0 0 ⟨#[]⟩ false 0 0 0 false
  unfold setTk at q0 q1 q2 q3 q4 q5 q6 q7 q8
  exact bodyPost_ret (v := .tuple #[.agg #[.int .i64 0, .int .i64 0, .int .i64 0, .string ⟨#[]⟩, .bool false, .int .i64 0, .int .u64 0, .int .u64 0, .bool false], .int .i64 0, .int .i64 3]) (by simp [results, Tryz.results10, go_sem, q0, q1, q2, q3, q4, q5, q6, q7, q8]) rfl ⟨rfl, below_setTk b2 (Nat.le_refl _) _ _ _ _ _ _ _ _ _⟩
set_option maxRecDepth 100000 in
set_option maxHeartbeats 4000000 in
theorem token_quo_ok_b9 (s : ByteArray) (m : Nat) (hs : s.size ≤ 100000) (hs1 : 1 ≤ s.size) (HL : Hid (isL (gb s 0) = false)) (h92 : gb s 0 = 92) (hm : Hid (span inQ (s.extract 1 s.size) = m)) (hm0 : 1 ≤ m) (h40 : m ≤ 40) (hl : 1 + m < s.size) (hat : s[1 + m].toNat = 9) (w : World) :
    Calls Tryz.prog 10 #[.string s] w fun e w' => e = .returned (.tuple #[.agg #[.int .i64 1, .int .i64 0, .int .i64 0, .string (s.extract 1 (1 + m)), .bool true, .int .i64 0, .int .u64 0, .int .u64 0, .bool false], .int .i64 (1 + m : Nat), .int .i64 0]) ∧ Below w.heap.size w w' := by
  have hs0 : 0 < s.size := by omega
  have hs1i : (1 : Int) ≤ (s.size : Int) := by omega
  have hb : s[0].toNat = gb s 0 := gb_at s 0 hs0
  have hg := gb_le s 0
  obtain ⟨NW, hNW⟩ : ∃ NW, span inW s = NW := ⟨_, rfl⟩
  have hNs : NW ≤ s.size := by rw [← hNW]; exact span_le _ _
  have hR := fun w1 => run_W s (by omega) w1
  rw [hNW] at hR
  have hI := fun w1 => isL_r (gb s 0) hg w1
  rw [HL.out] at hI
  have hm3 : (0 : Int) ≤ 1 + (m : Int) := by omega
  have hQ := fun w1 => run_Q (s.extract 1 s.size) (by simp; omega) w1
  rw [hm.out] at hQ
  have HQ := Lib.hid hQ
  have hml : m ≤ (s.extract 1 s.size).size := by rw [← hm.out]; exact span_le _ _
  have hml2 : 1 + m ≤ s.size := by simp at hml; omega
  clear hQ hm hml
  rw [h92] at hb hI
  have hm1 : ((1 : Int) + (m : Int) == 1) = false := beq_eq_false_iff_ne.2 (by omega)
  have h41 : ¬ (41 : Int) < 1 + (m : Int) := by omega
  have hw1 : (1 : Int) ≤ 1 + (m : Int) := by omega
  have hw2 : (1 : Int) + (m : Int) ≤ (s.size : Int) := by omega
  have hm2 : (1 : Int) + (m : Int) < (s.size : Int) := by omega
  have HR := Lib.hid hR
  have HI := Lib.hid hI
  clear hR hI HL
  go_enter Tryz.func10, Tryz.ntmps10
  go_upto_region 1 with fail
  obtain ⟨W1, hW1⟩ : ∃ W, W = w.alloc (Obj.cells #[Value.int IntKind.i64 0, Value.int IntKind.i64 0, Value.int IntKind.i64 0, Value.string { data := #[] }, Value.bool false, Value.int IntKind.i64 0, Value.int IntKind.u64 0, Value.int IntKind.u64 0, Value.bool false] 32) := ⟨_, rfl⟩
  have b0 : Below w.heap.size w W1 := by rw [hW1]; exact (Below.refl _ _).alloc (Nat.le_refl _) _
  have T0 : TB W1 w.heap.size 0 0 0 ⟨#[]⟩ false 0 0 0 false := by rw [hW1]; exact TB.new w 0 0 0 ⟨#[]⟩ false 0 0 0 false
  rw [← hW1]
  clear hW1
  have hlt := T0.lt
  go_upto_region 9 with (first | (go_at_call 15; refine (HR.out _).mono ?_; rintro e w1 ⟨rfl, rfl⟩) | (go_at_call 17; refine (HI.out _).mono ?_; rintro e w1 ⟨rfl, rfl⟩))
  clear HR HI
  go_upto_region 11 with (go_at_call 15; refine (HQ.out _).mono ?_; rintro e w2 ⟨rfl, hb2⟩)
  have T2 := T0.below hb2
  have b2 : Below w.heap.size w w2 := b0.trans (hb2.mono b0.size)
  obtain ⟨x0, x1, x2, x3, x4, x5, x6, x7, x8, xf⟩ := id T2
  clear T0 hb2
  go_wp2_with fail
  obtain ⟨q0, q1, q2, q3, q4, q5, q6, q7, q8, -⟩ := T2.set 1 0 0 (s.extract 1 (1 + m)) true 0 0 0 false
  unfold setTk at q0 q1 q2 q3 q4 q5 q6 q7 q8
  exact bodyPost_ret (v := .tuple #[.agg #[.int .i64 1, .int .i64 0, .int .i64 0, .string (s.extract 1 (1 + m)), .bool true, .int .i64 0, .int .u64 0, .int .u64 0, .bool false], .int .i64 (1 + m : Nat), .int .i64 0]) (by simp [results, Tryz.results10, go_sem, q0, q1, q2, q3, q4, q5, q6, q7, q8]) rfl ⟨by simp, below_setTk b2 (Nat.le_refl _) _ _ _ _ _ _ _ _ _⟩
set_option maxRecDepth 100000 in
set_option maxHeartbeats 4000000 in
theorem token_quo_big_b9 (s : ByteArray) (m : Nat) (hs : s.size ≤ 100000) (hs1 : 1 ≤ s.size) (HL : Hid (isL (gb s 0) = false)) (h92 : gb s 0 = 92) (hm : Hid (span inQ (s.extract 1 s.size) = m)) (hm0 : 1 ≤ m) (h40 : 40 < m) (hl : 1 + m < s.size) (hat : s[1 + m].toNat = 9) (w : World) :
    Calls Tryz.prog 10 #[.string s] w fun e w' => e = .returned (.tuple #[.agg #[.int .i64 0, .int .i64 0, .int .i64 0, .string ⟨#[]⟩, .bool false, .int .i64 0, .int .u64 0, .int .u64 0, .bool false], .int .i64 0, .int .i64 3]) ∧ Below w.heap.size w w' := by
  have hs0 : 0 < s.size := by omega
  have hs1i : (1 : Int) ≤ (s.size : Int) := by omega
  have hb : s[0].toNat = gb s 0 := gb_at s 0 hs0
  have hg := gb_le s 0
  obtain ⟨NW, hNW⟩ : ∃ NW, span inW s = NW := ⟨_, rfl⟩
  have hNs : NW ≤ s.size := by rw [← hNW]; exact span_le _ _
  have hR := fun w1 => run_W s (by omega) w1
  rw [hNW] at hR
  have hI := fun w1 => isL_r (gb s 0) hg w1
  rw [HL.out] at hI
  have hm3 : (0 : Int) ≤ 1 + (m : Int) := by omega
  have hQ := fun w1 => run_Q (s.extract 1 s.size) (by simp; omega) w1
  rw [hm.out] at hQ
  have HQ := Lib.hid hQ
  have hml : m ≤ (s.extract 1 s.size).size := by rw [← hm.out]; exact span_le _ _
  have hml2 : 1 + m ≤ s.size := by simp at hml; omega
  clear hQ hm hml
  rw [h92] at hb hI
  have hm1 : ((1 : Int) + (m : Int) == 1) = false := beq_eq_false_iff_ne.2 (by omega)
  have h41 : (41 : Int) < 1 + (m : Int) := by omega
  have hm2 : (1 : Int) + (m : Int) < (s.size : Int) := by omega
  have HR := Lib.hid hR
  have HI := Lib.hid hI
  clear hR hI HL
  go_enter Tryz.func10, Tryz.ntmps10
  go_upto_region 1 with fail
  obtain ⟨W1, hW1⟩ : ∃ W, W = w.alloc (Obj.cells #[Value.int IntKind.i64 0, Value.int IntKind.i64 0, Value.int IntKind.i64 0, Value.string { data := #[] }, Value.bool false, Value.int IntKind.i64 0, Value.int IntKind.u64 0, Value.int IntKind.u64 0, Value.bool false] 32) := ⟨_, rfl⟩
  have b0 : Below w.heap.size w W1 := by rw [hW1]; exact (Below.refl _ _).alloc (Nat.le_refl _) _
  have T0 : TB W1 w.heap.size 0 0 0 ⟨#[]⟩ false 0 0 0 false := by rw [hW1]; exact TB.new w 0 0 0 ⟨#[]⟩ false 0 0 0 false
  rw [← hW1]
  clear hW1
  have hlt := T0.lt
  go_upto_region 9 with (first | (go_at_call 15; refine (HR.out _).mono ?_; rintro e w1 ⟨rfl, rfl⟩) | (go_at_call 17; refine (HI.out _).mono ?_; rintro e w1 ⟨rfl, rfl⟩))
  clear HR HI
  go_upto_region 11 with (go_at_call 15; refine (HQ.out _).mono ?_; rintro e w2 ⟨rfl, hb2⟩)
  have T2 := T0.below hb2
  have b2 : Below w.heap.size w w2 := b0.trans (hb2.mono b0.size)
  obtain ⟨x0, x1, x2, x3, x4, x5, x6, x7, x8, xf⟩ := id T2
  clear T0 hb2
  go_wp2_with fail
  obtain ⟨q0, q1, q2, q3, q4, q5, q6, q7, q8, -⟩ := T2.set 0 0 0 ⟨#[]⟩ false 0 0 0 false
  unfold setTk at q0 q1 q2 q3 q4 q5 q6 q7 q8
  exact bodyPost_ret (v := .tuple #[.agg #[.int .i64 0, .int .i64 0, .int .i64 0, .string ⟨#[]⟩, .bool false, .int .i64 0, .int .u64 0, .int .u64 0, .bool false], .int .i64 0, .int .i64 3]) (by simp [results, Tryz.results10, go_sem, q0, q1, q2, q3, q4, q5, q6, q7, q8]) rfl ⟨rfl, below_setTk b2 (Nat.le_refl _) _ _ _ _ _ _ _ _ _⟩
set_option maxRecDepth 100000 in
set_option maxHeartbeats 4000000 in
theorem token_quo_ok_b10 (s : ByteArray) (m : Nat) (hs : s.size ≤ 100000) (hs1 : 1 ≤ s.size) (HL : Hid (isL (gb s 0) = false)) (h92 : gb s 0 = 92) (hm : Hid (span inQ (s.extract 1 s.size) = m)) (hm0 : 1 ≤ m) (h40 : m ≤ 40) (hl : 1 + m < s.size) (hat : s[1 + m].toNat = 10) (w : World) :
    Calls Tryz.prog 10 #[.string s] w fun e w' => e = .returned (.tuple #[.agg #[.int .i64 1, .int .i64 0, .int .i64 0, .string (s.extract 1 (1 + m)), .bool true, .int .i64 0, .int .u64 0, .int .u64 0, .bool false], .int .i64 (1 + m : Nat), .int .i64 0]) ∧ Below w.heap.size w w' := by
  have hs0 : 0 < s.size := by omega
  have hs1i : (1 : Int) ≤ (s.size : Int) := by omega
  have hb : s[0].toNat = gb s 0 := gb_at s 0 hs0
  have hg := gb_le s 0
  obtain ⟨NW, hNW⟩ : ∃ NW, span inW s = NW := ⟨_, rfl⟩
  have hNs : NW ≤ s.size := by rw [← hNW]; exact span_le _ _
  have hR := fun w1 => run_W s (by omega) w1
  rw [hNW] at hR
  have hI := fun w1 => isL_r (gb s 0) hg w1
  rw [HL.out] at hI
  have hm3 : (0 : Int) ≤ 1 + (m : Int) := by omega
  have hQ := fun w1 => run_Q (s.extract 1 s.size) (by simp; omega) w1
  rw [hm.out] at hQ
  have HQ := Lib.hid hQ
  have hml : m ≤ (s.extract 1 s.size).size := by rw [← hm.out]; exact span_le _ _
  have hml2 : 1 + m ≤ s.size := by simp at hml; omega
  clear hQ hm hml
  rw [h92] at hb hI
  have hm1 : ((1 : Int) + (m : Int) == 1) = false := beq_eq_false_iff_ne.2 (by omega)
  have h41 : ¬ (41 : Int) < 1 + (m : Int) := by omega
  have hw1 : (1 : Int) ≤ 1 + (m : Int) := by omega
  have hw2 : (1 : Int) + (m : Int) ≤ (s.size : Int) := by omega
  have hm2 : (1 : Int) + (m : Int) < (s.size : Int) := by omega
  have HR := Lib.hid hR
  have HI := Lib.hid hI
  clear hR hI HL
  go_enter Tryz.func10, Tryz.ntmps10
  go_upto_region 1 with fail
  obtain ⟨W1, hW1⟩ : ∃ W, W = w.alloc (Obj.cells #[Value.int IntKind.i64 0, Value.int IntKind.i64 0, Value.int IntKind.i64 0, Value.string { data := #[] }, Value.bool false, Value.int IntKind.i64 0, Value.int IntKind.u64 0, Value.int IntKind.u64 0, Value.bool false] 32) := ⟨_, rfl⟩
  have b0 : Below w.heap.size w W1 := by rw [hW1]; exact (Below.refl _ _).alloc (Nat.le_refl _) _
  have T0 : TB W1 w.heap.size 0 0 0 ⟨#[]⟩ false 0 0 0 false := by rw [hW1]; exact TB.new w 0 0 0 ⟨#[]⟩ false 0 0 0 false
  rw [← hW1]
  clear hW1
  have hlt := T0.lt
  go_upto_region 9 with (first | (go_at_call 15; refine (HR.out _).mono ?_; rintro e w1 ⟨rfl, rfl⟩) | (go_at_call 17; refine (HI.out _).mono ?_; rintro e w1 ⟨rfl, rfl⟩))
  clear HR HI
  go_upto_region 11 with (go_at_call 15; refine (HQ.out _).mono ?_; rintro e w2 ⟨rfl, hb2⟩)
  have T2 := T0.below hb2
  have b2 : Below w.heap.size w w2 := b0.trans (hb2.mono b0.size)
  obtain ⟨x0, x1, x2, x3, x4, x5, x6, x7, x8, xf⟩ := id T2
  clear T0 hb2
  go_wp2_with fail
  obtain ⟨q0, q1, q2, q3, q4, q5, q6, q7, q8, -⟩ := T2.set 1 0 0 (s.extract 1 (1 + m)) true 0 0 0 false
  unfold setTk at q0 q1 q2 q3 q4 q5 q6 q7 q8
  exact bodyPost_ret (v := .tuple #[.agg #[.int .i64 1, .int .i64 0, .int .i64 0, .string (s.extract 1 (1 + m)), .bool true, .int .i64 0, .int .u64 0, .int .u64 0, .bool false], .int .i64 (1 + m : Nat), .int .i64 0]) (by simp [results, Tryz.results10, go_sem, q0, q1, q2, q3, q4, q5, q6, q7, q8]) rfl ⟨by simp, below_setTk b2 (Nat.le_refl _) _ _ _ _ _ _ _ _ _⟩
set_option maxRecDepth 100000 in
set_option maxHeartbeats 4000000 in
theorem token_quo_big_b10 (s : ByteArray) (m : Nat) (hs : s.size ≤ 100000) (hs1 : 1 ≤ s.size) (HL : Hid (isL (gb s 0) = false)) (h92 : gb s 0 = 92) (hm : Hid (span inQ (s.extract 1 s.size) = m)) (hm0 : 1 ≤ m) (h40 : 40 < m) (hl : 1 + m < s.size) (hat : s[1 + m].toNat = 10) (w : World) :
    Calls Tryz.prog 10 #[.string s] w fun e w' => e = .returned (.tuple #[.agg #[.int .i64 0, .int .i64 0, .int .i64 0, .string ⟨#[]⟩, .bool false, .int .i64 0, .int .u64 0, .int .u64 0, .bool false], .int .i64 0, .int .i64 3]) ∧ Below w.heap.size w w' := by
  have hs0 : 0 < s.size := by omega
  have hs1i : (1 : Int) ≤ (s.size : Int) := by omega
  have hb : s[0].toNat = gb s 0 := gb_at s 0 hs0
  have hg := gb_le s 0
  obtain ⟨NW, hNW⟩ : ∃ NW, span inW s = NW := ⟨_, rfl⟩
  have hNs : NW ≤ s.size := by rw [← hNW]; exact span_le _ _
  have hR := fun w1 => run_W s (by omega) w1
  rw [hNW] at hR
  have hI := fun w1 => isL_r (gb s 0) hg w1
  rw [HL.out] at hI
  have hm3 : (0 : Int) ≤ 1 + (m : Int) := by omega
  have hQ := fun w1 => run_Q (s.extract 1 s.size) (by simp; omega) w1
  rw [hm.out] at hQ
  have HQ := Lib.hid hQ
  have hml : m ≤ (s.extract 1 s.size).size := by rw [← hm.out]; exact span_le _ _
  have hml2 : 1 + m ≤ s.size := by simp at hml; omega
  clear hQ hm hml
  rw [h92] at hb hI
  have hm1 : ((1 : Int) + (m : Int) == 1) = false := beq_eq_false_iff_ne.2 (by omega)
  have h41 : (41 : Int) < 1 + (m : Int) := by omega
  have hm2 : (1 : Int) + (m : Int) < (s.size : Int) := by omega
  have HR := Lib.hid hR
  have HI := Lib.hid hI
  clear hR hI HL
  go_enter Tryz.func10, Tryz.ntmps10
  go_upto_region 1 with fail
  obtain ⟨W1, hW1⟩ : ∃ W, W = w.alloc (Obj.cells #[Value.int IntKind.i64 0, Value.int IntKind.i64 0, Value.int IntKind.i64 0, Value.string { data := #[] }, Value.bool false, Value.int IntKind.i64 0, Value.int IntKind.u64 0, Value.int IntKind.u64 0, Value.bool false] 32) := ⟨_, rfl⟩
  have b0 : Below w.heap.size w W1 := by rw [hW1]; exact (Below.refl _ _).alloc (Nat.le_refl _) _
  have T0 : TB W1 w.heap.size 0 0 0 ⟨#[]⟩ false 0 0 0 false := by rw [hW1]; exact TB.new w 0 0 0 ⟨#[]⟩ false 0 0 0 false
  rw [← hW1]
  clear hW1
  have hlt := T0.lt
  go_upto_region 9 with (first | (go_at_call 15; refine (HR.out _).mono ?_; rintro e w1 ⟨rfl, rfl⟩) | (go_at_call 17; refine (HI.out _).mono ?_; rintro e w1 ⟨rfl, rfl⟩))
  clear HR HI
  go_upto_region 11 with (go_at_call 15; refine (HQ.out _).mono ?_; rintro e w2 ⟨rfl, hb2⟩)
  have T2 := T0.below hb2
  have b2 : Below w.heap.size w w2 := b0.trans (hb2.mono b0.size)
  obtain ⟨x0, x1, x2, x3, x4, x5, x6, x7, x8, xf⟩ := id T2
  clear T0 hb2
  go_wp2_with fail
  obtain ⟨q0, q1, q2, q3, q4, q5, q6, q7, q8, -⟩ := T2.set 0 0 0 ⟨#[]⟩ false 0 0 0 false
  unfold setTk at q0 q1 q2 q3 q4 q5 q6 q7 q8
  exact bodyPost_ret (v := .tuple #[.agg #[.int .i64 0, .int .i64 0, .int .i64 0, .string ⟨#[]⟩, .bool false, .int .i64 0, .int .u64 0, .int .u64 0, .bool false], .int .i64 0, .int .i64 3]) (by simp [results, Tryz.results10, go_sem, q0, q1, q2, q3, q4, q5, q6, q7, q8]) rfl ⟨rfl, below_setTk b2 (Nat.le_refl _) _ _ _ _ _ _ _ _ _⟩
end Go.Proofs.YtfnkablbcalclaaGreatDoor
namespace Go.Proofs.YtfnkablbcalclaaGreatDoor
open Go Go.RowKit
set_option linter.unusedVariables false
set_option maxRecDepth 100000 in
set_option maxHeartbeats 4000000 in
theorem token_str (s : ByteArray) (hs : s.size ≤ 100000) (hs1 : 1 ≤ s.size) (HL : Hid (isL (gb s 0) = false)) (h34 : gb s 0 = 34) (k l c : Int) (t : ByteArray) (q : Bool) (nn vv xx : Int) (sg : Bool) (sz er : Int) (w : World)
    (hS : ∀ W, Calls Tryz.prog 20 #[.string s] W fun e w' => e = .returned (.tuple #[.agg #[.int .i64 k, .int .i64 l, .int .i64 c, .string t, .bool q, .int .i64 nn, .int .u64 vv, .int .u64 xx, .bool sg], .int .i64 sz, .int .i64 er]) ∧ Below W.heap.size W w') :
    Calls Tryz.prog 10 #[.string s] w fun e w' => e = .returned (.tuple #[.agg #[.int .i64 k, .int .i64 l, .int .i64 c, .string t, .bool q, .int .i64 nn, .int .u64 vv, .int .u64 xx, .bool sg], .int .i64 sz, .int .i64 er]) ∧ Below w.heap.size w w' := by
  have hs0 : 0 < s.size := by omega
  have hs1i : (1 : Int) ≤ (s.size : Int) := by omega
  have hb : s[0].toNat = gb s 0 := gb_at s 0 hs0
  have hg := gb_le s 0
  obtain ⟨NW, hNW⟩ : ∃ NW, span inW s = NW := ⟨_, rfl⟩
  have hNs : NW ≤ s.size := by rw [← hNW]; exact span_le _ _
  have hR := fun w1 => run_W s (by omega) w1
  rw [hNW] at hR
  have hI := fun w1 => isL_r (gb s 0) hg w1
  rw [HL.out] at hI
  have HS := Lib.hid hS
  clear hS
  rw [h34] at hb hI
  have HR := Lib.hid hR
  have HI := Lib.hid hI
  clear hR hI HL
  go_enter Tryz.func10, Tryz.ntmps10
  go_upto_region 1 with fail
  obtain ⟨W1, hW1⟩ : ∃ W, W = w.alloc (Obj.cells #[Value.int IntKind.i64 0, Value.int IntKind.i64 0, Value.int IntKind.i64 0, Value.string { data := #[] }, Value.bool false, Value.int IntKind.i64 0, Value.int IntKind.u64 0, Value.int IntKind.u64 0, Value.bool false] 32) := ⟨_, rfl⟩
  have b0 : Below w.heap.size w W1 := by rw [hW1]; exact (Below.refl _ _).alloc (Nat.le_refl _) _
  have T0 : TB W1 w.heap.size 0 0 0 ⟨#[]⟩ false 0 0 0 false := by rw [hW1]; exact TB.new w 0 0 0 ⟨#[]⟩ false 0 0 0 false
  rw [← hW1]
  clear hW1
  have hlt := T0.lt
  go_upto_region 17 with (first | (go_at_call 15; refine (HR.out _).mono ?_; rintro e w1 ⟨rfl, rfl⟩) | (go_at_call 17; refine (HI.out _).mono ?_; rintro e w1 ⟨rfl, rfl⟩) | (go_at_call 20; refine (HS.out _).mono ?_; rintro e w2 ⟨rfl, hb2⟩))
  go_wp2_with fail
  refine (HS.out _).mono ?_
  rintro e w2 ⟨rfl, hb2⟩
  have T2 := T0.below hb2
  have b2 : Below w.heap.size w w2 := b0.trans (hb2.mono b0.size)
  obtain ⟨x0, x1, x2, x3, x4, x5, x6, x7, x8, xf⟩ := id T2
  clear T0 hb2
  go_wp2_with fail
  obtain ⟨q0, q1, q2, q3, q4, q5, q6, q7, q8, -⟩ := T2.set k l c t q nn vv xx sg
  unfold setTk at q0 q1 q2 q3 q4 q5 q6 q7 q8
  exact bodyPost_ret (v := .tuple #[.agg #[.int .i64 k, .int .i64 l, .int .i64 c, .string t, .bool q, .int .i64 nn, .int .u64 vv, .int .u64 xx, .bool sg], .int .i64 sz, .int .i64 er]) (by simp [results, Tryz.results10, go_sem, q0, q1, q2, q3, q4, q5, q6, q7, q8]) rfl ⟨rfl, below_setTk b2 (Nat.le_refl _) _ _ _ _ _ _ _ _ _⟩
set_option maxRecDepth 100000 in
set_option maxHeartbeats 4000000 in
theorem token_num (s : ByteArray) (hs : s.size ≤ 100000) (hs1 : 1 ≤ s.size) (HL : Hid (isL (gb s 0) = false)) (n92 : gb s 0 ≠ 92) (n34 : gb s 0 ≠ 34) (hW0 : 1 ≤ span inW s) (k l c : Int) (t : ByteArray) (q : Bool) (nn vv xx : Int) (sg : Bool) (sz er : Int) (w : World)
    (hS : ∀ W, Calls Tryz.prog 21 #[.string s] W fun e w' => e = .returned (.tuple #[.agg #[.int .i64 k, .int .i64 l, .int .i64 c, .string t, .bool q, .int .i64 nn, .int .u64 vv, .int .u64 xx, .bool sg], .int .i64 sz, .int .i64 er]) ∧ Below W.heap.size W w') :
    Calls Tryz.prog 10 #[.string s] w fun e w' => e = .returned (.tuple #[.agg #[.int .i64 k, .int .i64 l, .int .i64 c, .string t, .bool q, .int .i64 nn, .int .u64 vv, .int .u64 xx, .bool sg], .int .i64 sz, .int .i64 er]) ∧ Below w.heap.size w w' := by
  have hs0 : 0 < s.size := by omega
  have hs1i : (1 : Int) ≤ (s.size : Int) := by omega
  have hb : s[0].toNat = gb s 0 := gb_at s 0 hs0
  have hg := gb_le s 0
  obtain ⟨NW, hNW⟩ : ∃ NW, span inW s = NW := ⟨_, rfl⟩
  have hNs : NW ≤ s.size := by rw [← hNW]; exact span_le _ _
  have hR := fun w1 => run_W s (by omega) w1
  rw [hNW] at hR
  have hI := fun w1 => isL_r (gb s 0) hg w1
  rw [HL.out] at hI
  have HS := Lib.hid hS
  clear hS
  rw [hNW] at hW0
  have k92 : ((gb s 0 : Int) == 92) = false := beq_eq_false_iff_ne.2 (by omega)
  have k34 : ((gb s 0 : Int) == 34) = false := beq_eq_false_iff_ne.2 (by omega)
  have hWi : (0 : Int) < (NW : Int) := by omega
  generalize gb s 0 = c0 at *
  have HR := Lib.hid hR
  have HI := Lib.hid hI
  clear hR hI HL
  go_enter Tryz.func10, Tryz.ntmps10
  go_upto_region 1 with fail
  obtain ⟨W1, hW1⟩ : ∃ W, W = w.alloc (Obj.cells #[Value.int IntKind.i64 0, Value.int IntKind.i64 0, Value.int IntKind.i64 0, Value.string { data := #[] }, Value.bool false, Value.int IntKind.i64 0, Value.int IntKind.u64 0, Value.int IntKind.u64 0, Value.bool false] 32) := ⟨_, rfl⟩
  have b0 : Below w.heap.size w W1 := by rw [hW1]; exact (Below.refl _ _).alloc (Nat.le_refl _) _
  have T0 : TB W1 w.heap.size 0 0 0 ⟨#[]⟩ false 0 0 0 false := by rw [hW1]; exact TB.new w 0 0 0 ⟨#[]⟩ false 0 0 0 false
  rw [← hW1]
  clear hW1
  have hlt := T0.lt
  go_upto_region 19 with (first | (go_at_call 15; refine (HR.out _).mono ?_; rintro e w1 ⟨rfl, rfl⟩) | (go_at_call 17; refine (HI.out _).mono ?_; rintro e w1 ⟨rfl, rfl⟩) | (go_at_call 21; refine (HS.out _).mono ?_; rintro e w2 ⟨rfl, hb2⟩))
  go_wp2_with fail
  refine (HS.out _).mono ?_
  rintro e w2 ⟨rfl, hb2⟩
  have T2 := T0.below hb2
  have b2 : Below w.heap.size w w2 := b0.trans (hb2.mono b0.size)
  obtain ⟨x0, x1, x2, x3, x4, x5, x6, x7, x8, xf⟩ := id T2
  clear T0 hb2
  go_wp2_with fail
  obtain ⟨q0, q1, q2, q3, q4, q5, q6, q7, q8, -⟩ := T2.set k l c t q nn vv xx sg
  unfold setTk at q0 q1 q2 q3 q4 q5 q6 q7 q8
  exact bodyPost_ret (v := .tuple #[.agg #[.int .i64 k, .int .i64 l, .int .i64 c, .string t, .bool q, .int .i64 nn, .int .u64 vv, .int .u64 xx, .bool sg], .int .i64 sz, .int .i64 er]) (by simp [results, Tryz.results10, go_sem, q0, q1, q2, q3, q4, q5, q6, q7, q8]) rfl ⟨rfl, below_setTk b2 (Nat.le_refl _) _ _ _ _ _ _ _ _ _⟩
end Go.Proofs.YtfnkablbcalclaaGreatDoor
