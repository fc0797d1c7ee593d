/- Quotients and remainders of vectors that are valid. -/
import Derived.Test.YtodldcdfdjooaaaGreatDoorNeg
namespace Go.Proofs.YtodldcdfdjooaaaGreatDoor
open Go Go.RowKit
set_option linter.unusedVariables false
theorem U_tdiv (x y : BitVec 64) : IntKind.u64.wrap ((U x).tdiv (U y)) = U (x / y) := by
  have hx := x.isLt
  have hd : x.toNat / y.toNat ≤ x.toNat := Nat.div_le_self _ _
  unfold U
  rw [IntKind.wrap_u64, BitVec.toNat_udiv, ← Int.ofNat_tdiv]
  generalize x.toNat / y.toNat = q at hd ⊢
  omega
theorem U_tmod (x y : BitVec 64) : (U x).tmod (U y) = U (x % y) := by
  have hx := x.isLt
  have hd : x.toNat % y.toNat ≤ x.toNat := Nat.mod_le _ _
  unfold U
  rw [BitVec.toNat_umod, ← Int.ofNat_tmod]
theorem U_wrap (z : Int) : IntKind.u64.wrap (wrap64 z) = U (BitVec.ofInt 64 z) := by
  have h : wrap64 z = IntKind.i64.wrap z := (IntWalk.i64_left z).symm
  unfold U
  rw [h, IntKind.wrap_u64, IntKind.wrap_i64, BitVec.toNat_ofInt]
  omega
theorem U_wrap1 (z : Int) : IntKind.u64.wrap z = U (BitVec.ofInt 64 z) := by
  unfold U
  rw [IntKind.wrap_u64, BitVec.toNat_ofInt]
  omega
theorem kcell {W w' : World} {p o : Nat} {v : Value} (hb : Below W.heap.size W w') (h : W.cell? ⟨p, o, none⟩ = some v) : w'.cell? ⟨p, o, none⟩ = some v :=
  (hb.cell (p := ⟨p, o, none⟩) (World.block_lt_of_cell? W _ h)).trans h
theorem kcell2 {W0 W w' : World} {p o : Nat} {v : Value} (hb : Below W.heap.size W w') (hW : Below W0.heap.size W0 W) (h : W0.cell? ⟨p, o, none⟩ = some v) : w'.cell? ⟨p, o, none⟩ = some v := kcell hb (kcell hW h)
theorem div1_u (x y : BitVec 64) (p q r : Nat) (w : World) (hy : (y == 0#64) = false) (hs : w.cell? ⟨p, 0, none⟩ = some (.bool false)) :
    Calls Tryz.prog 125 #[.int .u64 (U x), .int .u64 (U y), .pointer (some ⟨p, 0, none⟩), .pointer (some ⟨q, 0, none⟩), .pointer (some ⟨r, 0, none⟩)] w fun e w' => e = .returned (.int .u64 (U (x / y))) ∧ w' = w := by
  have h0 : ¬ U y = 0 := by rw [U_zero]; simpa using hy
  go_enter Tryz.func125, Tryz.ntmps125
  go_wp2_with fail
  go_ret
  exact ⟨ret_int (U_tdiv x y), rfl⟩
theorem div1_s (n : Nat) (h1 : 1 ≤ n) (h2 : n ≤ 64) (x y : BitVec 64) (p q r : Nat) (w : World) (hs : w.cell? ⟨p, 0, none⟩ = some (.bool true)) (hq : w.cell? ⟨q, 0, none⟩ = some (.int .i64 n)) (hr : w.cell? ⟨r, 0, none⟩ = some (.int .i64 n)) (h0 : ¬ S (ext n y) = 0) :
    Calls Tryz.prog 125 #[.int .u64 (U x), .int .u64 (U y), .pointer (some ⟨p, 0, none⟩), .pointer (some ⟨q, 0, none⟩), .pointer (some ⟨r, 0, none⟩)] w fun e w' => e = .returned (.int .u64 (U (qt n true x y))) ∧ ∃ k, w' = w.drewN k := by
  have h0' : (S (ext n y) == 0) = false := by simpa using h0
  go_enter Tryz.func125, Tryz.ntmps125
  go_wp2_with fail
  go_quiet ((go_at_call 80; exact Calls.quiet_of_same (extend_q n _ _ h1 h2)))
  go_wp2_with fail
  go_ret
  exact ⟨ret_int (U_wrap _), _, rfl⟩
set_option maxRecDepth 100000 in
set_option maxHeartbeats 1000000 in
theorem compute_div_u (n : Nat) (a b : Vx) (p q r : Nat) (w : World) (ha : a.ok n) (hb : b.ok n) (hx : (a.x == 0#64) = true) (hy : (b.x == 0#64) = true) (h0 : (b.v == 0#64) = false) (hs : w.cell? ⟨p, 0, none⟩ = some (.bool false)) : Calls Tryz.prog 83 #[.agg #[.int .i64 n, .int .u64 (U a.v), .int .u64 (U a.x)], .agg #[.int .i64 n, .int .u64 (U b.v), .int .u64 (U b.x)], .func (.func 125) #[] #[.pointer (some ⟨p, 0, none⟩), .pointer (some ⟨q, 0, none⟩), .pointer (some ⟨r, 0, none⟩)]] w fun e w' => e = .returned (.agg #[.int .i64 n, .int .u64 (U (kv n (qt n false a.v b.v)).v), .int .u64 (U (kv n (qt n false a.v b.v)).x)]) ∧ Below w.heap.size w w' := by
  go_enter Tryz.func83, Tryz.ntmps83
  go_wp2_with fail
  refine (alike_ok n a.v a.x b.v b.x _ ha hb).mono ?_
  rintro e w1 ⟨rfl, hb1⟩
  obtain ⟨hc1, hf1⟩ := bcell hb1
  have z1_0 : w.heap.size < w1.heap.size := bsize hb1 (by first | omega | (simp <;> omega))
  have z1_1 : w.heap.size + 1 < w1.heap.size := bsize hb1 (by first | omega | (simp <;> omega))
  have z1_2 : w.heap.size + 2 < w1.heap.size := bsize hb1 (by first | omega | (simp <;> omega))
  go_wp2_with fail
  refine (known_yes n a _ ha hx).mono ?_
  rintro e w2 ⟨rfl, hb2⟩
  obtain ⟨hc2, hf2⟩ := bcell hb2
  have z2_0 : w.heap.size < w2.heap.size := bsize hb2 (by first | omega | (simp <;> omega))
  have z2_1 : w.heap.size + 1 < w2.heap.size := bsize hb2 (by first | omega | (simp <;> omega))
  have z2_2 : w.heap.size + 2 < w2.heap.size := bsize hb2 (by first | omega | (simp <;> omega))
  go_wp2_with fail
  refine (known_yes n b _ hb hy).mono ?_
  rintro e w3 ⟨rfl, hb3⟩
  obtain ⟨hc3, hf3⟩ := bcell hb3
  have z3_0 : w.heap.size < w3.heap.size := bsize hb3 (by first | omega | (simp <;> omega))
  have z3_1 : w.heap.size + 1 < w3.heap.size := bsize hb3 (by first | omega | (simp <;> omega))
  have z3_2 : w.heap.size + 2 < w3.heap.size := bsize hb3 (by first | omega | (simp <;> omega))
  go_wp2_with fail
  have hs1 := kcell2 hb1 (by (repeat (first | exact Below.refl _ _ | exact Nat.le_refl _ | refine below_drewN ?_ _ | refine Below.drew ?_ | refine Below.alloc ?_ ?_ _ | refine Below.setCell ?_ ?_ _ | refine below_step (by assumption) ?_ ?_)) <;> (first | omega | (simp <;> omega))) hs
  have hs2 := kcell hb2 hs1
  have hs3 := kcell hb3 hs2
  clear hs1 hs2
  refine wp_region_still_tail 8 (by kernel_rfl) (by kernel_rfl) ?_
  simp only [List.take_succ_cons, List.take_zero, List.drop_succ_cons, List.drop_zero]
  repeat (first | still_step | still_call (div1_u _ _ p q r _ h0 hs3))
  refine wpStill_nil ?_
  change wpList _ _ _ _ _ (World.drew _)
  go_wp2_with fail
  refine (of_ok n (a.v / b.v) _ ha.lo ha.hi).mono ?_
  rintro e w4 ⟨rfl, hb4⟩
  replace hb4 : Below w3.heap.size w3 w4 := ⟨hb4.os, hb4.tape, hb4.output, hb4.size, hb4.block⟩
  obtain ⟨hc4, hf4⟩ := bcell hb4
  have z4_0 : w.heap.size < w4.heap.size := bsize hb4 (by first | omega | (simp <;> omega))
  have z4_1 : w.heap.size + 1 < w4.heap.size := bsize hb4 (by first | omega | (simp <;> omega))
  have z4_2 : w.heap.size + 2 < w4.heap.size := bsize hb4 (by first | omega | (simp <;> omega))
  go_wp2_with fail
  exact bodyPost_ret (v := .agg #[.int .i64 n, .int .u64 (U (kv n (qt n false a.v b.v)).v), .int .u64 (U (kv n (qt n false a.v b.v)).x)]) (by simp [results, Tryz.results83, go_sem, hc1, z1_2, hc2, z2_2, hc3, z3_2, hc4] <;> first | rfl | exact ⟨rfl, rfl⟩ | exact ⟨rfl, rfl, rfl⟩) rfl ⟨rfl, by (repeat (first | exact Below.refl _ _ | exact Nat.le_refl _ | refine below_drewN ?_ _ | refine Below.drew ?_ | refine Below.alloc ?_ ?_ _ | refine Below.setCell ?_ ?_ _ | refine below_step (by assumption) ?_ ?_)) <;> (first | omega | (simp <;> omega))⟩
set_option maxRecDepth 100000 in
set_option maxHeartbeats 1000000 in
theorem compute_div_s (n : Nat) (a b : Vx) (p q r : Nat) (w : World) (ha : a.ok n) (hb : b.ok n) (hx : (a.x == 0#64) = true) (hy : (b.x == 0#64) = true) (h0 : ¬ S (ext n b.v) = 0) (h1 : 1 ≤ n) (h2 : n ≤ 64) (hs : w.cell? ⟨p, 0, none⟩ = some (.bool true)) (hq : w.cell? ⟨q, 0, none⟩ = some (.int .i64 n)) (hr : w.cell? ⟨r, 0, none⟩ = some (.int .i64 n)) : Calls Tryz.prog 83 #[.agg #[.int .i64 n, .int .u64 (U a.v), .int .u64 (U a.x)], .agg #[.int .i64 n, .int .u64 (U b.v), .int .u64 (U b.x)], .func (.func 125) #[] #[.pointer (some ⟨p, 0, none⟩), .pointer (some ⟨q, 0, none⟩), .pointer (some ⟨r, 0, none⟩)]] w fun e w' => e = .returned (.agg #[.int .i64 n, .int .u64 (U (kv n (qt n true a.v b.v)).v), .int .u64 (U (kv n (qt n true a.v b.v)).x)]) ∧ Below w.heap.size w w' := by
  go_enter Tryz.func83, Tryz.ntmps83
  go_wp2_with fail
  refine (alike_ok n a.v a.x b.v b.x _ ha hb).mono ?_
  rintro e w1 ⟨rfl, hb1⟩
  obtain ⟨hc1, hf1⟩ := bcell hb1
  have z1_0 : w.heap.size < w1.heap.size := bsize hb1 (by first | omega | (simp <;> omega))
  have z1_1 : w.heap.size + 1 < w1.heap.size := bsize hb1 (by first | omega | (simp <;> omega))
  have z1_2 : w.heap.size + 2 < w1.heap.size := bsize hb1 (by first | omega | (simp <;> omega))
  go_wp2_with fail
  refine (known_yes n a _ ha hx).mono ?_
  rintro e w2 ⟨rfl, hb2⟩
  obtain ⟨hc2, hf2⟩ := bcell hb2
  have z2_0 : w.heap.size < w2.heap.size := bsize hb2 (by first | omega | (simp <;> omega))
  have z2_1 : w.heap.size + 1 < w2.heap.size := bsize hb2 (by first | omega | (simp <;> omega))
  have z2_2 : w.heap.size + 2 < w2.heap.size := bsize hb2 (by first | omega | (simp <;> omega))
  go_wp2_with fail
  refine (known_yes n b _ hb hy).mono ?_
  rintro e w3 ⟨rfl, hb3⟩
  obtain ⟨hc3, hf3⟩ := bcell hb3
  have z3_0 : w.heap.size < w3.heap.size := bsize hb3 (by first | omega | (simp <;> omega))
  have z3_1 : w.heap.size + 1 < w3.heap.size := bsize hb3 (by first | omega | (simp <;> omega))
  have z3_2 : w.heap.size + 2 < w3.heap.size := bsize hb3 (by first | omega | (simp <;> omega))
  go_wp2_with fail
  have hs1 := kcell2 hb1 (by (repeat (first | exact Below.refl _ _ | exact Nat.le_refl _ | refine below_drewN ?_ _ | refine Below.drew ?_ | refine Below.alloc ?_ ?_ _ | refine Below.setCell ?_ ?_ _ | refine below_step (by assumption) ?_ ?_)) <;> (first | omega | (simp <;> omega))) hs
  have hs2 := kcell hb2 hs1
  have hs3 := kcell hb3 hs2
  clear hs1 hs2
  have hq1 := kcell2 hb1 (by (repeat (first | exact Below.refl _ _ | exact Nat.le_refl _ | refine below_drewN ?_ _ | refine Below.drew ?_ | refine Below.alloc ?_ ?_ _ | refine Below.setCell ?_ ?_ _ | refine below_step (by assumption) ?_ ?_)) <;> (first | omega | (simp <;> omega))) hq
  have hq2 := kcell hb2 hq1
  have hq3 := kcell hb3 hq2
  clear hq1 hq2
  have hr1 := kcell2 hb1 (by (repeat (first | exact Below.refl _ _ | exact Nat.le_refl _ | refine below_drewN ?_ _ | refine Below.drew ?_ | refine Below.alloc ?_ ?_ _ | refine Below.setCell ?_ ?_ _ | refine below_step (by assumption) ?_ ?_)) <;> (first | omega | (simp <;> omega))) hr
  have hr2 := kcell hb2 hr1
  have hr3 := kcell hb3 hr2
  clear hr1 hr2
  clear hs hq hr
  go_region_with (first
    | (go_at_call 125; refine (div1_s n h1 h2 a.v b.v p q r _ (by exact hs3) (by exact hq3) (by exact hr3) h0).mono ?_; rintro e wd ⟨rfl, kd, rfl⟩)
    | (go_at_call 44; (with_reducible refine (of_ok n (qt n true a.v b.v) _ h1 h2).mono ?_); rintro e w4 ⟨rfl, hb4⟩; replace hb4 : Below w3.heap.size w3 w4 := ⟨hb4.os, hb4.tape, hb4.output, hb4.size, hb4.block⟩; obtain ⟨hc4, hf4⟩ := bcell hb4; have z4_2 : w.heap.size + 2 < w4.heap.size := bsize hb4 (by first | omega | (simp <;> omega))))
  all_goals
    go_wp2_with fail
    replace hb4 : Below w3.heap.size w3 w4 := ⟨hb4.os, hb4.tape, hb4.output, hb4.size, hb4.block⟩
  all_goals
  exact bodyPost_ret (v := .agg #[.int .i64 n, .int .u64 (U (kv n (qt n true a.v b.v)).v), .int .u64 (U (kv n (qt n true a.v b.v)).x)]) (by simp [results, Tryz.results83, go_sem, hc4, hc1, z1_2, hc2, z2_2, hc3, z3_2] <;> first | rfl | exact ⟨rfl, rfl⟩ | exact ⟨rfl, rfl, rfl⟩) rfl ⟨rfl, by (repeat (first | exact Below.refl _ _ | exact Nat.le_refl _ | refine below_drewN ?_ _ | refine Below.drew ?_ | refine Below.alloc ?_ ?_ _ | refine Below.setCell ?_ ?_ _ | refine below_step (by assumption) ?_ ?_)) <;> (first | omega | (simp <;> omega))⟩
theorem mod1_u (x y : BitVec 64) (p q r : Nat) (w : World) (hy : (y == 0#64) = false) (hs : w.cell? ⟨p, 0, none⟩ = some (.bool false)) :
    Calls Tryz.prog 126 #[.int .u64 (U x), .int .u64 (U y), .pointer (some ⟨p, 0, none⟩), .pointer (some ⟨q, 0, none⟩), .pointer (some ⟨r, 0, none⟩)] w fun e w' => e = .returned (.int .u64 (U (x % y))) ∧ w' = w := by
  have h0 : ¬ U y = 0 := by rw [U_zero]; simpa using hy
  go_enter Tryz.func126, Tryz.ntmps126
  go_wp2_with fail
  go_ret
  exact ⟨ret_int (U_tmod x y), rfl⟩
theorem mod1_s (n : Nat) (h1 : 1 ≤ n) (h2 : n ≤ 64) (x y : BitVec 64) (p q r : Nat) (w : World) (hs : w.cell? ⟨p, 0, none⟩ = some (.bool true)) (hq : w.cell? ⟨q, 0, none⟩ = some (.int .i64 n)) (hr : w.cell? ⟨r, 0, none⟩ = some (.int .i64 n)) (h0 : ¬ S (ext n y) = 0) :
    Calls Tryz.prog 126 #[.int .u64 (U x), .int .u64 (U y), .pointer (some ⟨p, 0, none⟩), .pointer (some ⟨q, 0, none⟩), .pointer (some ⟨r, 0, none⟩)] w fun e w' => e = .returned (.int .u64 (U (rm n true x y))) ∧ ∃ k, w' = w.drewN k := by
  have h0' : (S (ext n y) == 0) = false := by simpa using h0
  go_enter Tryz.func126, Tryz.ntmps126
  go_wp2_with fail
  go_quiet ((go_at_call 80; exact Calls.quiet_of_same (extend_q n _ _ h1 h2)))
  go_wp2_with fail
  go_ret
  exact ⟨ret_int (U_wrap1 _), _, rfl⟩
set_option maxRecDepth 100000 in
set_option maxHeartbeats 1000000 in
theorem compute_mod_u (n : Nat) (a b : Vx) (p q r : Nat) (w : World) (ha : a.ok n) (hb : b.ok n) (hx : (a.x == 0#64) = true) (hy : (b.x == 0#64) = true) (h0 : (b.v == 0#64) = false) (hs : w.cell? ⟨p, 0, none⟩ = some (.bool false)) : Calls Tryz.prog 83 #[.agg #[.int .i64 n, .int .u64 (U a.v), .int .u64 (U a.x)], .agg #[.int .i64 n, .int .u64 (U b.v), .int .u64 (U b.x)], .func (.func 126) #[] #[.pointer (some ⟨p, 0, none⟩), .pointer (some ⟨q, 0, none⟩), .pointer (some ⟨r, 0, none⟩)]] w fun e w' => e = .returned (.agg #[.int .i64 n, .int .u64 (U (kv n (rm n false a.v b.v)).v), .int .u64 (U (kv n (rm n false a.v b.v)).x)]) ∧ Below w.heap.size w w' := by
  go_enter Tryz.func83, Tryz.ntmps83
  go_wp2_with fail
  refine (alike_ok n a.v a.x b.v b.x _ ha hb).mono ?_
  rintro e w1 ⟨rfl, hb1⟩
  obtain ⟨hc1, hf1⟩ := bcell hb1
  have z1_0 : w.heap.size < w1.heap.size := bsize hb1 (by first | omega | (simp <;> omega))
  have z1_1 : w.heap.size + 1 < w1.heap.size := bsize hb1 (by first | omega | (simp <;> omega))
  have z1_2 : w.heap.size + 2 < w1.heap.size := bsize hb1 (by first | omega | (simp <;> omega))
  go_wp2_with fail
  refine (known_yes n a _ ha hx).mono ?_
  rintro e w2 ⟨rfl, hb2⟩
  obtain ⟨hc2, hf2⟩ := bcell hb2
  have z2_0 : w.heap.size < w2.heap.size := bsize hb2 (by first | omega | (simp <;> omega))
  have z2_1 : w.heap.size + 1 < w2.heap.size := bsize hb2 (by first | omega | (simp <;> omega))
  have z2_2 : w.heap.size + 2 < w2.heap.size := bsize hb2 (by first | omega | (simp <;> omega))
  go_wp2_with fail
  refine (known_yes n b _ hb hy).mono ?_
  rintro e w3 ⟨rfl, hb3⟩
  obtain ⟨hc3, hf3⟩ := bcell hb3
  have z3_0 : w.heap.size < w3.heap.size := bsize hb3 (by first | omega | (simp <;> omega))
  have z3_1 : w.heap.size + 1 < w3.heap.size := bsize hb3 (by first | omega | (simp <;> omega))
  have z3_2 : w.heap.size + 2 < w3.heap.size := bsize hb3 (by first | omega | (simp <;> omega))
  go_wp2_with fail
  have hs1 := kcell2 hb1 (by (repeat (first | exact Below.refl _ _ | exact Nat.le_refl _ | refine below_drewN ?_ _ | refine Below.drew ?_ | refine Below.alloc ?_ ?_ _ | refine Below.setCell ?_ ?_ _ | refine below_step (by assumption) ?_ ?_)) <;> (first | omega | (simp <;> omega))) hs
  have hs2 := kcell hb2 hs1
  have hs3 := kcell hb3 hs2
  clear hs1 hs2
  refine wp_region_still_tail 8 (by kernel_rfl) (by kernel_rfl) ?_
  simp only [List.take_succ_cons, List.take_zero, List.drop_succ_cons, List.drop_zero]
  repeat (first | still_step | still_call (mod1_u _ _ p q r _ h0 hs3))
  refine wpStill_nil ?_
  change wpList _ _ _ _ _ (World.drew _)
  go_wp2_with fail
  refine (of_ok n (a.v % b.v) _ ha.lo ha.hi).mono ?_
  rintro e w4 ⟨rfl, hb4⟩
  replace hb4 : Below w3.heap.size w3 w4 := ⟨hb4.os, hb4.tape, hb4.output, hb4.size, hb4.block⟩
  obtain ⟨hc4, hf4⟩ := bcell hb4
  have z4_0 : w.heap.size < w4.heap.size := bsize hb4 (by first | omega | (simp <;> omega))
  have z4_1 : w.heap.size + 1 < w4.heap.size := bsize hb4 (by first | omega | (simp <;> omega))
  have z4_2 : w.heap.size + 2 < w4.heap.size := bsize hb4 (by first | omega | (simp <;> omega))
  go_wp2_with fail
  exact bodyPost_ret (v := .agg #[.int .i64 n, .int .u64 (U (kv n (rm n false a.v b.v)).v), .int .u64 (U (kv n (rm n false a.v b.v)).x)]) (by simp [results, Tryz.results83, go_sem, hc1, z1_2, hc2, z2_2, hc3, z3_2, hc4] <;> first | rfl | exact ⟨rfl, rfl⟩ | exact ⟨rfl, rfl, rfl⟩) rfl ⟨rfl, by (repeat (first | exact Below.refl _ _ | exact Nat.le_refl _ | refine below_drewN ?_ _ | refine Below.drew ?_ | refine Below.alloc ?_ ?_ _ | refine Below.setCell ?_ ?_ _ | refine below_step (by assumption) ?_ ?_)) <;> (first | omega | (simp <;> omega))⟩
set_option maxRecDepth 100000 in
set_option maxHeartbeats 1000000 in
theorem compute_mod_s (n : Nat) (a b : Vx) (p q r : Nat) (w : World) (ha : a.ok n) (hb : b.ok n) (hx : (a.x == 0#64) = true) (hy : (b.x == 0#64) = true) (h0 : ¬ S (ext n b.v) = 0) (h1 : 1 ≤ n) (h2 : n ≤ 64) (hs : w.cell? ⟨p, 0, none⟩ = some (.bool true)) (hq : w.cell? ⟨q, 0, none⟩ = some (.int .i64 n)) (hr : w.cell? ⟨r, 0, none⟩ = some (.int .i64 n)) : Calls Tryz.prog 83 #[.agg #[.int .i64 n, .int .u64 (U a.v), .int .u64 (U a.x)], .agg #[.int .i64 n, .int .u64 (U b.v), .int .u64 (U b.x)], .func (.func 126) #[] #[.pointer (some ⟨p, 0, none⟩), .pointer (some ⟨q, 0, none⟩), .pointer (some ⟨r, 0, none⟩)]] w fun e w' => e = .returned (.agg #[.int .i64 n, .int .u64 (U (kv n (rm n true a.v b.v)).v), .int .u64 (U (kv n (rm n true a.v b.v)).x)]) ∧ Below w.heap.size w w' := by
  go_enter Tryz.func83, Tryz.ntmps83
  go_wp2_with fail
  refine (alike_ok n a.v a.x b.v b.x _ ha hb).mono ?_
  rintro e w1 ⟨rfl, hb1⟩
  obtain ⟨hc1, hf1⟩ := bcell hb1
  have z1_0 : w.heap.size < w1.heap.size := bsize hb1 (by first | omega | (simp <;> omega))
  have z1_1 : w.heap.size + 1 < w1.heap.size := bsize hb1 (by first | omega | (simp <;> omega))
  have z1_2 : w.heap.size + 2 < w1.heap.size := bsize hb1 (by first | omega | (simp <;> omega))
  go_wp2_with fail
  refine (known_yes n a _ ha hx).mono ?_
  rintro e w2 ⟨rfl, hb2⟩
  obtain ⟨hc2, hf2⟩ := bcell hb2
  have z2_0 : w.heap.size < w2.heap.size := bsize hb2 (by first | omega | (simp <;> omega))
  have z2_1 : w.heap.size + 1 < w2.heap.size := bsize hb2 (by first | omega | (simp <;> omega))
  have z2_2 : w.heap.size + 2 < w2.heap.size := bsize hb2 (by first | omega | (simp <;> omega))
  go_wp2_with fail
  refine (known_yes n b _ hb hy).mono ?_
  rintro e w3 ⟨rfl, hb3⟩
  obtain ⟨hc3, hf3⟩ := bcell hb3
  have z3_0 : w.heap.size < w3.heap.size := bsize hb3 (by first | omega | (simp <;> omega))
  have z3_1 : w.heap.size + 1 < w3.heap.size := bsize hb3 (by first | omega | (simp <;> omega))
  have z3_2 : w.heap.size + 2 < w3.heap.size := bsize hb3 (by first | omega | (simp <;> omega))
  go_wp2_with fail
  have hs1 := kcell2 hb1 (by (repeat (first | exact Below.refl _ _ | exact Nat.le_refl _ | refine below_drewN ?_ _ | refine Below.drew ?_ | refine Below.alloc ?_ ?_ _ | refine Below.setCell ?_ ?_ _ | refine below_step (by assumption) ?_ ?_)) <;> (first | omega | (simp <;> omega))) hs
  have hs2 := kcell hb2 hs1
  have hs3 := kcell hb3 hs2
  clear hs1 hs2
  have hq1 := kcell2 hb1 (by (repeat (first | exact Below.refl _ _ | exact Nat.le_refl _ | refine below_drewN ?_ _ | refine Below.drew ?_ | refine Below.alloc ?_ ?_ _ | refine Below.setCell ?_ ?_ _ | refine below_step (by assumption) ?_ ?_)) <;> (first | omega | (simp <;> omega))) hq
  have hq2 := kcell hb2 hq1
  have hq3 := kcell hb3 hq2
  clear hq1 hq2
  have hr1 := kcell2 hb1 (by (repeat (first | exact Below.refl _ _ | exact Nat.le_refl _ | refine below_drewN ?_ _ | refine Below.drew ?_ | refine Below.alloc ?_ ?_ _ | refine Below.setCell ?_ ?_ _ | refine below_step (by assumption) ?_ ?_)) <;> (first | omega | (simp <;> omega))) hr
  have hr2 := kcell hb2 hr1
  have hr3 := kcell hb3 hr2
  clear hr1 hr2
  clear hs hq hr
  go_region_with (first
    | (go_at_call 126; refine (mod1_s n h1 h2 a.v b.v p q r _ (by exact hs3) (by exact hq3) (by exact hr3) h0).mono ?_; rintro e wd ⟨rfl, kd, rfl⟩)
    | (go_at_call 44; (with_reducible refine (of_ok n (rm n true a.v b.v) _ h1 h2).mono ?_); rintro e w4 ⟨rfl, hb4⟩; replace hb4 : Below w3.heap.size w3 w4 := ⟨hb4.os, hb4.tape, hb4.output, hb4.size, hb4.block⟩; obtain ⟨hc4, hf4⟩ := bcell hb4; have z4_2 : w.heap.size + 2 < w4.heap.size := bsize hb4 (by first | omega | (simp <;> omega))))
  all_goals
    go_wp2_with fail
    replace hb4 : Below w3.heap.size w3 w4 := ⟨hb4.os, hb4.tape, hb4.output, hb4.size, hb4.block⟩
  all_goals
  exact bodyPost_ret (v := .agg #[.int .i64 n, .int .u64 (U (kv n (rm n true a.v b.v)).v), .int .u64 (U (kv n (rm n true a.v b.v)).x)]) (by simp [results, Tryz.results83, go_sem, hc4, hc1, z1_2, hc2, z2_2, hc3, z3_2] <;> first | rfl | exact ⟨rfl, rfl⟩ | exact ⟨rfl, rfl, rfl⟩) rfl ⟨rfl, by (repeat (first | exact Below.refl _ _ | exact Nat.le_refl _ | refine below_drewN ?_ _ | refine Below.drew ?_ | refine Below.alloc ?_ ?_ _ | refine Below.setCell ?_ ?_ _ | refine below_step (by assumption) ?_ ?_)) <;> (first | omega | (simp <;> omega))⟩
end Go.Proofs.YtodldcdfdjooaaaGreatDoor
