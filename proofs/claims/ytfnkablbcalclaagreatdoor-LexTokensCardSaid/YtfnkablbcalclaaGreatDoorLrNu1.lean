/- The reference's numberToken: a quotation mark, faults. -/
import Derived.Test.YtfnkablbcalclaaGreatDoorMgTkA
namespace Go.Proofs.YtfnkablbcalclaaGreatDoor
open Go Go.RowKit
set_option linter.unusedVariables false
set_option maxRecDepth 100000 in
set_option maxHeartbeats 4000000 in
theorem numTok_let_in (s : ByteArray) (n : Nat) (hs : s.size ≤ 100000) (hns : n ≤ s.size) (h1 : 1 ≤ n) (hn : Hid (span isD s = n)) (hl : n < s.size) (h39 : s[n].toNat ≠ 39) (W : Nat) (hw : Hid (span inW s = W)) (hW : n < W) (w : World) :
    Calls Tryz.prog 21 #[.string s] w fun e w' => e = .returned (.tuple #[.agg #[.int .i64 0, .int .i64 0, .int .i64 0, .string ⟨#[]⟩, .bool false, .int .i64 0, .int .u64 0, .int .u64 0, .bool false], .int .i64 0, .int .i64 10]) ∧ Below w.heap.size w w' := by
  have hn0 : (0 : Int) ≤ (n : Int) := by omega
  have hn1 : (n : Int) ≤ (s.size : Int) := by omega
  have hs0 : 0 < s.size := by omega
  have hs0i : (0 : Int) < (s.size : Int) := by omega
  have hD := fun w1 => run_D s (by omega) w1
  rw [hn.out] at hD
  have HD := Lib.hid hD
  clear hD hn
  have hlt1 : (n : Int) < (s.size : Int) := by omega
  have k39 : ((s[n].toNat : Int) == 39) = false := beq_eq_false_iff_ne.2 (by omega)
  have hR := fun w1 => run_W s (by omega) w1
  rw [hw.out] at hR
  have HR := Lib.hid hR
  clear hR hw
  have hWi : (n : Int) < (W : Int) := by omega
  go_enter Tryz.func21, Tryz.ntmps21
  go_upto_region 1 with fail
  obtain ⟨W1, hW1⟩ : ∃ W, W = w.alloc (Obj.cells #[Value.int IntKind.i64 0, Value.int IntKind.i64 0, Value.int IntKind.i64 0, Value.string { data := #[] }, Value.bool false, Value.int IntKind.i64 0, Value.int IntKind.u64 0, Value.int IntKind.u64 0, Value.bool false] 32) := ⟨_, rfl⟩
  have b0 : Below w.heap.size w W1 := by rw [hW1]; exact (Below.refl _ _).alloc (Nat.le_refl _) _
  have T0 : TB W1 w.heap.size 0 0 0 ⟨#[]⟩ false 0 0 0 false := by rw [hW1]; exact TB.new w 0 0 0 ⟨#[]⟩ false 0 0 0 false
  rw [← hW1]
  clear hW1
  have hlt := T0.lt
  obtain ⟨x0, x1, x2, x3, x4, x5, x6, x7, x8, xf⟩ := id T0
  go_upto_region 2 with (go_at_call 15; refine (HD.out _).mono ?_; rintro e w1 ⟨rfl, rfl⟩)
  clear HD
  go_upto_region 7 with (go_at_call 15; refine (HR.out _).mono ?_; rintro e w1 ⟨rfl, rfl⟩)
  go_wp2_with fail
  obtain ⟨q0, q1, q2, q3, q4, q5, q6, q7, q8, -⟩ := T0.set 0 0 0 ⟨#[]⟩ false 0 0 0 false
  unfold setTk at q0 q1 q2 q3 q4 q5 q6 q7 q8
  exact bodyPost_ret (v := .tuple #[.agg #[.int .i64 0, .int .i64 0, .int .i64 0, .string ⟨#[]⟩, .bool false, .int .i64 0, .int .u64 0, .int .u64 0, .bool false], .int .i64 0, .int .i64 10]) (by simp [results, Tryz.results21, go_sem, q0, q1, q2, q3, q4, q5, q6, q7, q8]) rfl ⟨rfl, below_setTk b0 (Nat.le_refl _) _ _ _ _ _ _ _ _ _⟩
set_option maxRecDepth 100000 in
set_option maxHeartbeats 4000000 in
theorem numTok_nought_in (s : ByteArray) (n : Nat) (hs : s.size ≤ 100000) (hns : n ≤ s.size) (h1 : 1 ≤ n) (hs00 : 0 < s.size) (hn : Hid (span isD s = n)) (hl : n < s.size) (h39 : s[n].toNat ≠ 39) (W : Nat) (hw : Hid (span inW s = W)) (hW : W ≤ n) (h2 : 2 ≤ n) (h48 : s[0].toNat = 48) (w : World) :
    Calls Tryz.prog 21 #[.string s] w fun e w' => e = .returned (.tuple #[.agg #[.int .i64 0, .int .i64 0, .int .i64 0, .string ⟨#[]⟩, .bool false, .int .i64 0, .int .u64 0, .int .u64 0, .bool false], .int .i64 0, .int .i64 10]) ∧ Below w.heap.size w w' := by
  have hn0 : (0 : Int) ≤ (n : Int) := by omega
  have hn1 : (n : Int) ≤ (s.size : Int) := by omega
  have hs0 : 0 < s.size := by omega
  have hs0i : (0 : Int) < (s.size : Int) := by omega
  have hD := fun w1 => run_D s (by omega) w1
  rw [hn.out] at hD
  have HD := Lib.hid hD
  clear hD hn
  have hlt1 : (n : Int) < (s.size : Int) := by omega
  have k39 : ((s[n].toNat : Int) == 39) = false := beq_eq_false_iff_ne.2 (by omega)
  have hR := fun w1 => run_W s (by omega) w1
  rw [hw.out] at hR
  have HR := Lib.hid hR
  clear hR hw
  have hWi : ¬ (n : Int) < (W : Int) := by omega
  have h2i : (1 : Int) < (n : Int) := by omega
  go_enter Tryz.func21, Tryz.ntmps21
  go_upto_region 1 with fail
  obtain ⟨W1, hW1⟩ : ∃ W, W = w.alloc (Obj.cells #[Value.int IntKind.i64 0, Value.int IntKind.i64 0, Value.int IntKind.i64 0, Value.string { data := #[] }, Value.bool false, Value.int IntKind.i64 0, Value.int IntKind.u64 0, Value.int IntKind.u64 0, Value.bool false] 32) := ⟨_, rfl⟩
  have b0 : Below w.heap.size w W1 := by rw [hW1]; exact (Below.refl _ _).alloc (Nat.le_refl _) _
  have T0 : TB W1 w.heap.size 0 0 0 ⟨#[]⟩ false 0 0 0 false := by rw [hW1]; exact TB.new w 0 0 0 ⟨#[]⟩ false 0 0 0 false
  rw [← hW1]
  clear hW1
  have hlt := T0.lt
  obtain ⟨x0, x1, x2, x3, x4, x5, x6, x7, x8, xf⟩ := id T0
  go_upto_region 2 with (go_at_call 15; refine (HD.out _).mono ?_; rintro e w1 ⟨rfl, rfl⟩)
  clear HD
  go_upto_region 7 with (go_at_call 15; refine (HR.out _).mono ?_; rintro e w1 ⟨rfl, rfl⟩)
  go_wp2_with fail
  obtain ⟨q0, q1, q2, q3, q4, q5, q6, q7, q8, -⟩ := T0.set 0 0 0 ⟨#[]⟩ false 0 0 0 false
  unfold setTk at q0 q1 q2 q3 q4 q5 q6 q7 q8
  exact bodyPost_ret (v := .tuple #[.agg #[.int .i64 0, .int .i64 0, .int .i64 0, .string ⟨#[]⟩, .bool false, .int .i64 0, .int .u64 0, .int .u64 0, .bool false], .int .i64 0, .int .i64 10]) (by simp [results, Tryz.results21, go_sem, q0, q1, q2, q3, q4, q5, q6, q7, q8]) rfl ⟨rfl, below_setTk b0 (Nat.le_refl _) _ _ _ _ _ _ _ _ _⟩
set_option maxRecDepth 100000 in
set_option maxHeartbeats 4000000 in
theorem numTok_nought_at (s : ByteArray) (n : Nat) (hs : s.size ≤ 100000) (hns : n ≤ s.size) (h1 : 1 ≤ n) (hs00 : 0 < s.size) (hn : Hid (span isD s = n)) (hl : n = s.size) (W : Nat) (hw : Hid (span inW s = W)) (hW : W ≤ n) (h2 : 2 ≤ n) (h48 : s[0].toNat = 48) (w : World) :
    Calls Tryz.prog 21 #[.string s] w fun e w' => e = .returned (.tuple #[.agg #[.int .i64 0, .int .i64 0, .int .i64 0, .string ⟨#[]⟩, .bool false, .int .i64 0, .int .u64 0, .int .u64 0, .bool false], .int .i64 0, .int .i64 10]) ∧ Below w.heap.size w w' := by
  have hn0 : (0 : Int) ≤ (n : Int) := by omega
  have hn1 : (n : Int) ≤ (s.size : Int) := by omega
  have hs0 : 0 < s.size := by omega
  have hs0i : (0 : Int) < (s.size : Int) := by omega
  have hD := fun w1 => run_D s (by omega) w1
  rw [hn.out] at hD
  have HD := Lib.hid hD
  clear hD hn
  have hlt1 : ¬ (n : Int) < (s.size : Int) := by omega
  clear hl
  have hR := fun w1 => run_W s (by omega) w1
  rw [hw.out] at hR
  have HR := Lib.hid hR
  clear hR hw
  have hWi : ¬ (n : Int) < (W : Int) := by omega
  have h2i : (1 : Int) < (n : Int) := by omega
  go_enter Tryz.func21, Tryz.ntmps21
  go_upto_region 1 with fail
  obtain ⟨W1, hW1⟩ : ∃ W, W = w.alloc (Obj.cells #[Value.int IntKind.i64 0, Value.int IntKind.i64 0, Value.int IntKind.i64 0, Value.string { data := #[] }, Value.bool false, Value.int IntKind.i64 0, Value.int IntKind.u64 0, Value.int IntKind.u64 0, Value.bool false] 32) := ⟨_, rfl⟩
  have b0 : Below w.heap.size w W1 := by rw [hW1]; exact (Below.refl _ _).alloc (Nat.le_refl _) _
  have T0 : TB W1 w.heap.size 0 0 0 ⟨#[]⟩ false 0 0 0 false := by rw [hW1]; exact TB.new w 0 0 0 ⟨#[]⟩ false 0 0 0 false
  rw [← hW1]
  clear hW1
  have hlt := T0.lt
  obtain ⟨x0, x1, x2, x3, x4, x5, x6, x7, x8, xf⟩ := id T0
  go_upto_region 2 with (go_at_call 15; refine (HD.out _).mono ?_; rintro e w1 ⟨rfl, rfl⟩)
  clear HD
  go_upto_region 7 with (go_at_call 15; refine (HR.out _).mono ?_; rintro e w1 ⟨rfl, rfl⟩)
  go_wp2_with fail
  obtain ⟨q0, q1, q2, q3, q4, q5, q6, q7, q8, -⟩ := T0.set 0 0 0 ⟨#[]⟩ false 0 0 0 false
  unfold setTk at q0 q1 q2 q3 q4 q5 q6 q7 q8
  exact bodyPost_ret (v := .tuple #[.agg #[.int .i64 0, .int .i64 0, .int .i64 0, .string ⟨#[]⟩, .bool false, .int .i64 0, .int .u64 0, .int .u64 0, .bool false], .int .i64 0, .int .i64 10]) (by simp [results, Tryz.results21, go_sem, q0, q1, q2, q3, q4, q5, q6, q7, q8]) rfl ⟨rfl, below_setTk b0 (Nat.le_refl _) _ _ _ _ _ _ _ _ _⟩
set_option maxRecDepth 100000 in
set_option maxHeartbeats 4000000 in
theorem numTok_quo_no (s : ByteArray) (n : Nat) (hs : s.size ≤ 100000) (hns : n ≤ s.size) (h1 : 1 ≤ n) (hn : Hid (span isD s = n)) (hl : n < s.size) (h39 : s[n].toNat = 39) (r : Nat) (hr : Hid (span inW (s.extract (n + 1) s.size) = r)) (hrs : n + 1 + r ≤ s.size) (hr0 : r = 0) (a b c er : Int) (w : World)
    (hB : ∀ W, Calls Tryz.prog 40 #[.string (s.extract 0 (n + 1 + r))] W fun e w' => e = .returned (.tuple #[.agg #[.int .i64 a, .int .u64 b, .int .u64 c], .int .i64 er]) ∧ Below W.heap.size W w') :
    Calls Tryz.prog 21 #[.string s] w fun e w' => e = .returned (.tuple #[.agg #[.int .i64 3, .int .i64 0, .int .i64 0, .string ⟨#[]⟩, .bool false, .int .i64 a, .int .u64 b, .int .u64 c, .bool false], .int .i64 (n + 1 + r : Nat), .int .i64 er]) ∧ Below w.heap.size w w' := by
  have hn0 : (0 : Int) ≤ (n : Int) := by omega
  have hn1 : (n : Int) ≤ (s.size : Int) := by omega
  have hs0 : 0 < s.size := by omega
  have hs0i : (0 : Int) < (s.size : Int) := by omega
  have hD := fun w1 => run_D s (by omega) w1
  rw [hn.out] at hD
  have HD := Lib.hid hD
  clear hD hn
  have hlt1 : (n : Int) < (s.size : Int) := by omega
  have hq1 : (n : Int) + 1 ≤ (s.size : Int) := by omega
  have hq0 : (0 : Int) ≤ (n : Int) + 1 := by omega
  have hm0 : (0 : Int) ≤ (n : Int) + 1 + (r : Int) := by omega
  have hm1 : (n : Int) + 1 + (r : Int) ≤ (s.size : Int) := by omega
  have hR := fun w1 => run_W (s.extract (n + 1) s.size) (by simp; omega) w1
  rw [hr.out] at hR
  have HR := Lib.hid hR
  have HB := Lib.hid hB
  clear hR hr hB
  subst hr0
  have hr1 : ¬ (n : Int) + 1 < (n : Int) + 1 + ((0 : Nat) : Int) := by omega
  go_enter Tryz.func21, Tryz.ntmps21
  go_upto_region 1 with fail
  obtain ⟨W1, hW1⟩ : ∃ W, W = w.alloc (Obj.cells #[Value.int IntKind.i64 0, Value.int IntKind.i64 0, Value.int IntKind.i64 0, Value.string { data := #[] }, Value.bool false, Value.int IntKind.i64 0, Value.int IntKind.u64 0, Value.int IntKind.u64 0, Value.bool false] 32) := ⟨_, rfl⟩
  have b0 : Below w.heap.size w W1 := by rw [hW1]; exact (Below.refl _ _).alloc (Nat.le_refl _) _
  have T0 : TB W1 w.heap.size 0 0 0 ⟨#[]⟩ false 0 0 0 false := by rw [hW1]; exact TB.new w 0 0 0 ⟨#[]⟩ false 0 0 0 false
  rw [← hW1]
  clear hW1
  have hlt := T0.lt
  go_upto_region 2 with (go_at_call 15; refine (HD.out _).mono ?_; rintro e w1 ⟨rfl, rfl⟩)
  clear HD
  go_upto_region 4 with (go_at_call 15; refine (HR.out _).mono ?_; rintro e w1 ⟨rfl, rfl⟩)
  clear HR
  go_upto_region 5 with (go_at_call 40; refine (HB.out _).mono ?_; rintro e w2 ⟨rfl, hb2⟩)
  have T2 := T0.below hb2
  have b2 := b0.trans (hb2.mono b0.size)
  obtain ⟨W3, hW3⟩ : ∃ W, W = w2.alloc (Obj.cells #[Value.int IntKind.i64 a, Value.int IntKind.u64 b, Value.int IntKind.u64 c] 30) := ⟨_, rfl⟩
  have b3 : Below w2.heap.size w2 W3 := by rw [hW3]; exact (Below.refl _ _).alloc (Nat.le_refl _) _
  have y0 : W3.cell? ⟨w2.heap.size, 0, none⟩ = some (.int .i64 a) := by rw [hW3]; go_simp
  have y1 : W3.cell? ⟨w2.heap.size, 1, none⟩ = some (.int .u64 b) := by rw [hW3]; go_simp
  have y2 : W3.cell? ⟨w2.heap.size, 2, none⟩ = some (.int .u64 c) := by rw [hW3]; go_simp
  have T3 := T2.below b3
  rw [← hW3]
  have b4 : Below w.heap.size w W3 := b2.trans (b3.mono b2.size)
  clear hW3 T0 T2 b3 hb2 b2 hlt b0
  obtain ⟨x0, x1, x2, x3, x4, x5, x6, x7, x8, xf⟩ := id T3
  go_region
  all_goals
    go_wp2_with fail
    obtain ⟨q0, q1, q2, q3, q4, q5, q6, q7, q8, -⟩ := (T3.set 3 0 0 ⟨#[]⟩ false a b c false).below (Below.refl _ _).drew
    unfold setTk at q0 q1 q2 q3 q4 q5 q6 q7 q8
    exact bodyPost_ret (v := .tuple #[.agg #[.int .i64 3, .int .i64 0, .int .i64 0, .string ⟨#[]⟩, .bool false, .int .i64 a, .int .u64 b, .int .u64 c, .bool false], .int .i64 (n + 1 + 0 : Nat), .int .i64 er]) (by simp [results, Tryz.results21, go_sem, q0, q1, q2, q3, q4, q5, q6, q7, q8]) rfl ⟨by simp, (below_setTk b4 (Nat.le_refl _) _ _ _ _ _ _ _ _ _).drew⟩
set_option maxRecDepth 100000 in
set_option maxHeartbeats 4000000 in
theorem numTok_quo_yes (s : ByteArray) (n : Nat) (hs : s.size ≤ 100000) (hns : n ≤ s.size) (h1 : 1 ≤ n) (hn : Hid (span isD s = n)) (hl : n < s.size) (h39 : s[n].toNat = 39) (r : Nat) (hr : Hid (span inW (s.extract (n + 1) s.size) = r)) (hrs : n + 1 + r ≤ s.size) (hr0 : 1 ≤ r) (hl2 : n + 1 < s.size) (h115 : s[n + 1].toNat = 115) (a b c er : Int) (w : World)
    (hB : ∀ W, Calls Tryz.prog 40 #[.string (s.extract 0 (n + 1 + r))] W fun e w' => e = .returned (.tuple #[.agg #[.int .i64 a, .int .u64 b, .int .u64 c], .int .i64 er]) ∧ Below W.heap.size W w') :
    Calls Tryz.prog 21 #[.string s] w fun e w' => e = .returned (.tuple #[.agg #[.int .i64 3, .int .i64 0, .int .i64 0, .string ⟨#[]⟩, .bool false, .int .i64 a, .int .u64 b, .int .u64 c, .bool true], .int .i64 (n + 1 + r : Nat), .int .i64 er]) ∧ Below w.heap.size w w' := by
  have hn0 : (0 : Int) ≤ (n : Int) := by omega
  have hn1 : (n : Int) ≤ (s.size : Int) := by omega
  have hs0 : 0 < s.size := by omega
  have hs0i : (0 : Int) < (s.size : Int) := by omega
  have hD := fun w1 => run_D s (by omega) w1
  rw [hn.out] at hD
  have HD := Lib.hid hD
  clear hD hn
  have hlt1 : (n : Int) < (s.size : Int) := by omega
  have hq1 : (n : Int) + 1 ≤ (s.size : Int) := by omega
  have hq0 : (0 : Int) ≤ (n : Int) + 1 := by omega
  have hm0 : (0 : Int) ≤ (n : Int) + 1 + (r : Int) := by omega
  have hm1 : (n : Int) + 1 + (r : Int) ≤ (s.size : Int) := by omega
  have hR := fun w1 => run_W (s.extract (n + 1) s.size) (by simp; omega) w1
  rw [hr.out] at hR
  have HR := Lib.hid hR
  have HB := Lib.hid hB
  clear hR hr hB
  have hr1 : (n : Int) + 1 < (n : Int) + 1 + (r : Int) := by omega
  have hl2i : (n : Int) + 1 < (s.size : Int) := by omega
  have hl3 : (0 : Int) ≤ (n : Int) + 1 := by omega
  go_enter Tryz.func21, Tryz.ntmps21
  go_upto_region 1 with fail
  obtain ⟨W1, hW1⟩ : ∃ W, W = w.alloc (Obj.cells #[Value.int IntKind.i64 0, Value.int IntKind.i64 0, Value.int IntKind.i64 0, Value.string { data := #[] }, Value.bool false, Value.int IntKind.i64 0, Value.int IntKind.u64 0, Value.int IntKind.u64 0, Value.bool false] 32) := ⟨_, rfl⟩
  have b0 : Below w.heap.size w W1 := by rw [hW1]; exact (Below.refl _ _).alloc (Nat.le_refl _) _
  have T0 : TB W1 w.heap.size 0 0 0 ⟨#[]⟩ false 0 0 0 false := by rw [hW1]; exact TB.new w 0 0 0 ⟨#[]⟩ false 0 0 0 false
  rw [← hW1]
  clear hW1
  have hlt := T0.lt
  go_upto_region 2 with (go_at_call 15; refine (HD.out _).mono ?_; rintro e w1 ⟨rfl, rfl⟩)
  clear HD
  go_upto_region 4 with (go_at_call 15; refine (HR.out _).mono ?_; rintro e w1 ⟨rfl, rfl⟩)
  clear HR
  go_upto_region 5 with (go_at_call 40; refine (HB.out _).mono ?_; rintro e w2 ⟨rfl, hb2⟩)
  have T2 := T0.below hb2
  have b2 := b0.trans (hb2.mono b0.size)
  obtain ⟨W3, hW3⟩ : ∃ W, W = w2.alloc (Obj.cells #[Value.int IntKind.i64 a, Value.int IntKind.u64 b, Value.int IntKind.u64 c] 30) := ⟨_, rfl⟩
  have b3 : Below w2.heap.size w2 W3 := by rw [hW3]; exact (Below.refl _ _).alloc (Nat.le_refl _) _
  have y0 : W3.cell? ⟨w2.heap.size, 0, none⟩ = some (.int .i64 a) := by rw [hW3]; go_simp
  have y1 : W3.cell? ⟨w2.heap.size, 1, none⟩ = some (.int .u64 b) := by rw [hW3]; go_simp
  have y2 : W3.cell? ⟨w2.heap.size, 2, none⟩ = some (.int .u64 c) := by rw [hW3]; go_simp
  have T3 := T2.below b3
  rw [← hW3]
  have b4 : Below w.heap.size w W3 := b2.trans (b3.mono b2.size)
  clear hW3 T0 T2 b3 hb2 b2 hlt b0
  obtain ⟨x0, x1, x2, x3, x4, x5, x6, x7, x8, xf⟩ := id T3
  go_region
  all_goals
    go_wp2_with fail
    obtain ⟨q0, q1, q2, q3, q4, q5, q6, q7, q8, -⟩ := (T3.set 3 0 0 ⟨#[]⟩ false a b c true).below (Below.refl _ _).drew
    unfold setTk at q0 q1 q2 q3 q4 q5 q6 q7 q8
    exact bodyPost_ret (v := .tuple #[.agg #[.int .i64 3, .int .i64 0, .int .i64 0, .string ⟨#[]⟩, .bool false, .int .i64 a, .int .u64 b, .int .u64 c, .bool true], .int .i64 (n + 1 + r : Nat), .int .i64 er]) (by simp [results, Tryz.results21, go_sem, q0, q1, q2, q3, q4, q5, q6, q7, q8]) rfl ⟨by simp, (below_setTk b4 (Nat.le_refl _) _ _ _ _ _ _ _ _ _).drew⟩
set_option maxRecDepth 100000 in
set_option maxHeartbeats 4000000 in
theorem numTok_quo_else (s : ByteArray) (n : Nat) (hs : s.size ≤ 100000) (hns : n ≤ s.size) (h1 : 1 ≤ n) (hn : Hid (span isD s = n)) (hl : n < s.size) (h39 : s[n].toNat = 39) (r : Nat) (hr : Hid (span inW (s.extract (n + 1) s.size) = r)) (hrs : n + 1 + r ≤ s.size) (hr0 : 1 ≤ r) (hl2 : n + 1 < s.size) (h115 : s[n + 1].toNat ≠ 115) (a b c er : Int) (w : World)
    (hB : ∀ W, Calls Tryz.prog 40 #[.string (s.extract 0 (n + 1 + r))] W fun e w' => e = .returned (.tuple #[.agg #[.int .i64 a, .int .u64 b, .int .u64 c], .int .i64 er]) ∧ Below W.heap.size W w') :
    Calls Tryz.prog 21 #[.string s] w fun e w' => e = .returned (.tuple #[.agg #[.int .i64 3, .int .i64 0, .int .i64 0, .string ⟨#[]⟩, .bool false, .int .i64 a, .int .u64 b, .int .u64 c, .bool false], .int .i64 (n + 1 + r : Nat), .int .i64 er]) ∧ Below w.heap.size w w' := by
  have hn0 : (0 : Int) ≤ (n : Int) := by omega
  have hn1 : (n : Int) ≤ (s.size : Int) := by omega
  have hs0 : 0 < s.size := by omega
  have hs0i : (0 : Int) < (s.size : Int) := by omega
  have hD := fun w1 => run_D s (by omega) w1
  rw [hn.out] at hD
  have HD := Lib.hid hD
  clear hD hn
  have hlt1 : (n : Int) < (s.size : Int) := by omega
  have hq1 : (n : Int) + 1 ≤ (s.size : Int) := by omega
  have hq0 : (0 : Int) ≤ (n : Int) + 1 := by omega
  have hm0 : (0 : Int) ≤ (n : Int) + 1 + (r : Int) := by omega
  have hm1 : (n : Int) + 1 + (r : Int) ≤ (s.size : Int) := by omega
  have hR := fun w1 => run_W (s.extract (n + 1) s.size) (by simp; omega) w1
  rw [hr.out] at hR
  have HR := Lib.hid hR
  have HB := Lib.hid hB
  clear hR hr hB
  have hr1 : (n : Int) + 1 < (n : Int) + 1 + (r : Int) := by omega
  have hl2i : (n : Int) + 1 < (s.size : Int) := by omega
  have hl3 : (0 : Int) ≤ (n : Int) + 1 := by omega
  have k115 : ((s[n + 1].toNat : Int) == 115) = false := beq_eq_false_iff_ne.2 (by omega)
  go_enter Tryz.func21, Tryz.ntmps21
  go_upto_region 1 with fail
  obtain ⟨W1, hW1⟩ : ∃ W, W = w.alloc (Obj.cells #[Value.int IntKind.i64 0, Value.int IntKind.i64 0, Value.int IntKind.i64 0, Value.string { data := #[] }, Value.bool false, Value.int IntKind.i64 0, Value.int IntKind.u64 0, Value.int IntKind.u64 0, Value.bool false] 32) := ⟨_, rfl⟩
  have b0 : Below w.heap.size w W1 := by rw [hW1]; exact (Below.refl _ _).alloc (Nat.le_refl _) _
  have T0 : TB W1 w.heap.size 0 0 0 ⟨#[]⟩ false 0 0 0 false := by rw [hW1]; exact TB.new w 0 0 0 ⟨#[]⟩ false 0 0 0 false
  rw [← hW1]
  clear hW1
  have hlt := T0.lt
  go_upto_region 2 with (go_at_call 15; refine (HD.out _).mono ?_; rintro e w1 ⟨rfl, rfl⟩)
  clear HD
  go_upto_region 4 with (go_at_call 15; refine (HR.out _).mono ?_; rintro e w1 ⟨rfl, rfl⟩)
  clear HR
  go_upto_region 5 with (go_at_call 40; refine (HB.out _).mono ?_; rintro e w2 ⟨rfl, hb2⟩)
  have T2 := T0.below hb2
  have b2 := b0.trans (hb2.mono b0.size)
  obtain ⟨W3, hW3⟩ : ∃ W, W = w2.alloc (Obj.cells #[Value.int IntKind.i64 a, Value.int IntKind.u64 b, Value.int IntKind.u64 c] 30) := ⟨_, rfl⟩
  have b3 : Below w2.heap.size w2 W3 := by rw [hW3]; exact (Below.refl _ _).alloc (Nat.le_refl _) _
  have y0 : W3.cell? ⟨w2.heap.size, 0, none⟩ = some (.int .i64 a) := by rw [hW3]; go_simp
  have y1 : W3.cell? ⟨w2.heap.size, 1, none⟩ = some (.int .u64 b) := by rw [hW3]; go_simp
  have y2 : W3.cell? ⟨w2.heap.size, 2, none⟩ = some (.int .u64 c) := by rw [hW3]; go_simp
  have T3 := T2.below b3
  rw [← hW3]
  have b4 : Below w.heap.size w W3 := b2.trans (b3.mono b2.size)
  clear hW3 T0 T2 b3 hb2 b2 hlt b0
  obtain ⟨x0, x1, x2, x3, x4, x5, x6, x7, x8, xf⟩ := id T3
  go_region
  all_goals
    go_wp2_with fail
    obtain ⟨q0, q1, q2, q3, q4, q5, q6, q7, q8, -⟩ := (T3.set 3 0 0 ⟨#[]⟩ false a b c false).below (Below.refl _ _).drew
    unfold setTk at q0 q1 q2 q3 q4 q5 q6 q7 q8
    exact bodyPost_ret (v := .tuple #[.agg #[.int .i64 3, .int .i64 0, .int .i64 0, .string ⟨#[]⟩, .bool false, .int .i64 a, .int .u64 b, .int .u64 c, .bool false], .int .i64 (n + 1 + r : Nat), .int .i64 er]) (by simp [results, Tryz.results21, go_sem, q0, q1, q2, q3, q4, q5, q6, q7, q8]) rfl ⟨by simp, (below_setTk b4 (Nat.le_refl _) _ _ _ _ _ _ _ _ _).drew⟩
end Go.Proofs.YtfnkablbcalclaaGreatDoor
