/- Cond of any vectors. -/
import Derived.Test.YtmaokbdjahgkiaaGreatDoorChosenP
namespace Go.Proofs.YtmaokbdjahgkiaaGreatDoor
open Go Go.RowKit Go.Sort
set_option linter.unusedVariables false
set_option maxRecDepth 100000 in
set_option maxHeartbeats 1000000 in
theorem cond_ill (c a b : Rb) (w : World) (h : c.okB = false) : Calls Tryz.prog 36 #[.agg #[.int .i64 c.W, .int .u64 (U c.v), .int .u64 (U c.x)], .agg #[.int .i64 a.W, .int .u64 (U a.v), .int .u64 (U a.x)], .agg #[.int .i64 b.W, .int .u64 (U b.v), .int .u64 (U b.x)]] w fun e w' => e = .returned (.agg #[.int .i64 0, .int .u64 0, .int .u64 0]) ∧ Below w.heap.size w w' := by
  obtain ⟨cW, cv, cx⟩ := c
  obtain ⟨aW, av, ax⟩ := a
  obtain ⟨bW, bv, bx⟩ := b
  have c1 := Lib.hid fun w => valid_no cW cv cx w h
  clear h
  show Calls Tryz.prog 36 #[.agg #[.int .i64 cW, .int .u64 (U cv), .int .u64 (U cx)], .agg #[.int .i64 aW, .int .u64 (U av), .int .u64 (U ax)], .agg #[.int .i64 bW, .int .u64 (U bv), .int .u64 (U bx)]] w _
  go_enter Tryz.func36, Tryz.ntmps36
  go_wp2_with fail
  refine (c1.out _).mono ?_
  rintro e w1 ⟨rfl, hb1⟩
  obtain ⟨hc1, hf1⟩ := bcell hb1
  have b1 : Below w.heap.size w w1 := ((((((Below.refl _ _).alloc (Nat.le_refl _) _).alloc (by simp) _).alloc (by simp; omega) _).alloc (by simp; omega) _).trans (hb1.mono (by simp; omega)))
  have r0 : w1.cell? ⟨w.heap.size + 1 + 1 + 1, 0, none⟩ = some (.int .i64 0) := by rw [hc1 _ _ (by simp)]; go_simp
  have r1 : w1.cell? ⟨w.heap.size + 1 + 1 + 1, 1, none⟩ = some (.int .u64 0) := by rw [hc1 _ _ (by simp)]; go_simp
  have r2 : w1.cell? ⟨w.heap.size + 1 + 1 + 1, 2, none⟩ = some (.int .u64 0) := by rw [hc1 _ _ (by simp)]; go_simp
  have rf : ∀ o, w1.frozen? ⟨w.heap.size + 1 + 1 + 1, o, none⟩ = false := fun o => by rw [hf1 _ _ (by simp)]; go_simp
  clear hc1 hf1 hb1
  go_wp2_with fail
  exact bodyPost_ret (v := .agg #[.int .i64 0, .int .u64 0, .int .u64 0]) (by simp [results, Tryz.results36, go_sem, r0, r1, r2]) rfl ⟨rfl, (by (repeat (first | (with_reducible exact b1) | (with_reducible exact Nat.le_refl _) | (with_reducible refine Below.setCell ?_ ?_ _) | (with_reducible refine Below.alloc ?_ ?_ _) | (with_reducible refine below_drewN ?_ _) | (with_reducible refine Below.drew ?_))) <;> (first | omega | (simp <;> omega)))⟩
set_option maxRecDepth 100000 in
set_option maxHeartbeats 1000000 in
theorem cond_no (m : Nat) (c : Vx) (a b : Rb) (w : World) (hc : c.ok m) (h : alikeB a b = false) : Calls Tryz.prog 36 #[.agg #[.int .i64 m, .int .u64 (U c.v), .int .u64 (U c.x)], .agg #[.int .i64 a.W, .int .u64 (U a.v), .int .u64 (U a.x)], .agg #[.int .i64 b.W, .int .u64 (U b.v), .int .u64 (U b.x)]] w fun e w' => e = .returned (.agg #[.int .i64 0, .int .u64 0, .int .u64 0]) ∧ Below w.heap.size w w' := by
  obtain ⟨cv, cx⟩ := c
  obtain ⟨aW, av, ax⟩ := a
  obtain ⟨bW, bv, bx⟩ := b
  have c1 := Lib.hid fun w => valid_ok m cv cx w hc
  have c2 := Lib.hid fun w => alike_no ⟨aW, av, ax⟩ ⟨bW, bv, bx⟩ w h
  clear h hc
  show Calls Tryz.prog 36 #[.agg #[.int .i64 m, .int .u64 (U cv), .int .u64 (U cx)], .agg #[.int .i64 aW, .int .u64 (U av), .int .u64 (U ax)], .agg #[.int .i64 bW, .int .u64 (U bv), .int .u64 (U bx)]] w _
  go_enter Tryz.func36, Tryz.ntmps36
  go_wp2_with fail
  refine (c1.out _).mono ?_
  rintro e w1 ⟨rfl, hb1⟩
  obtain ⟨hc1, hf1⟩ := bcell hb1
  have b1 : Below w.heap.size w w1 := ((((((Below.refl _ _).alloc (Nat.le_refl _) _).alloc (by simp) _).alloc (by simp; omega) _).alloc (by simp; omega) _).trans (hb1.mono (by simp; omega)))
  have z1 : w.heap.size + 1 < w1.heap.size := bsize hb1 (by first | (simp; done) | (simp; omega))
  have z2 : w.heap.size + 1 + 1 < w1.heap.size := bsize hb1 (by first | (simp; done) | (simp; omega))
  have z3 : w.heap.size + 1 + 1 + 1 < w1.heap.size := bsize hb1 (by simp)
  have pa0 : w1.cell? ⟨w.heap.size + 1, 0, none⟩ = some (.int .i64 aW) := by rw [hc1 _ _ (by first | (simp; done) | (simp; omega))]; go_simp
  have pa1 : w1.cell? ⟨w.heap.size + 1, 1, none⟩ = some (.int .u64 (U av)) := by rw [hc1 _ _ (by first | (simp; done) | (simp; omega))]; go_simp
  have pa2 : w1.cell? ⟨w.heap.size + 1, 2, none⟩ = some (.int .u64 (U ax)) := by rw [hc1 _ _ (by first | (simp; done) | (simp; omega))]; go_simp
  have pb0 : w1.cell? ⟨w.heap.size + 1 + 1, 0, none⟩ = some (.int .i64 bW) := by rw [hc1 _ _ (by first | (simp; done) | (simp; omega))]; go_simp
  have pb1 : w1.cell? ⟨w.heap.size + 1 + 1, 1, none⟩ = some (.int .u64 (U bv)) := by rw [hc1 _ _ (by first | (simp; done) | (simp; omega))]; go_simp
  have pb2 : w1.cell? ⟨w.heap.size + 1 + 1, 2, none⟩ = some (.int .u64 (U bx)) := by rw [hc1 _ _ (by first | (simp; done) | (simp; omega))]; go_simp
  have r0 : w1.cell? ⟨w.heap.size + 1 + 1 + 1, 0, none⟩ = some (.int .i64 0) := by rw [hc1 _ _ (by simp)]; go_simp
  have r1 : w1.cell? ⟨w.heap.size + 1 + 1 + 1, 1, none⟩ = some (.int .u64 0) := by rw [hc1 _ _ (by simp)]; go_simp
  have r2 : w1.cell? ⟨w.heap.size + 1 + 1 + 1, 2, none⟩ = some (.int .u64 0) := by rw [hc1 _ _ (by simp)]; go_simp
  have rf : ∀ o, w1.frozen? ⟨w.heap.size + 1 + 1 + 1, o, none⟩ = false := fun o => by rw [hf1 _ _ (by simp)]; go_simp
  clear hc1 hf1 hb1
  go_wp2_with fail
  refine (c2.out _).mono ?_
  rintro e w2 ⟨rfl, hb2⟩
  obtain ⟨hc2, hf2⟩ := bcell hb2
  have b2 : Below w.heap.size w w2 := b1.trans (hb2.mono b1.size)
  replace r0 := (hc2 _ _ z3).trans r0
  replace r1 := (hc2 _ _ z3).trans r1
  replace r2 := (hc2 _ _ z3).trans r2
  replace rf := fun o => (hf2 _ _ z3).trans (rf o)
  replace z3 := Nat.lt_of_lt_of_le z3 hb2.size
  clear hc2 hf2 hb2
  go_wp2_with fail
  exact bodyPost_ret (v := .agg #[.int .i64 0, .int .u64 0, .int .u64 0]) (by simp [results, Tryz.results36, go_sem, r0, r1, r2]) rfl ⟨rfl, (by (repeat (first | (with_reducible exact b2) | (with_reducible exact Nat.le_refl _) | (with_reducible refine Below.setCell ?_ ?_ _) | (with_reducible refine Below.alloc ?_ ?_ _) | (with_reducible refine below_drewN ?_ _) | (with_reducible refine Below.drew ?_))) <;> (first | omega | (simp <;> omega)))⟩
set_option maxRecDepth 100000 in
set_option maxHeartbeats 1000000 in
theorem cond_ok (n m : Nat) (c a b : Vx) (w : World) (hc : c.ok m) (ha : a.ok n) (hb : b.ok n) : Calls Tryz.prog 36 #[.agg #[.int .i64 m, .int .u64 (U c.v), .int .u64 (U c.x)], .agg #[.int .i64 n, .int .u64 (U a.v), .int .u64 (U a.x)], .agg #[.int .i64 n, .int .u64 (U b.v), .int .u64 (U b.x)]] w fun e w' => e = .returned (.agg #[.int .i64 n, .int .u64 (U (vcond n c a b).v), .int .u64 (U (vcond n c a b).x)]) ∧ Below w.heap.size w w' := by
  obtain ⟨cv, cx⟩ := c
  obtain ⟨av, ax⟩ := a
  obtain ⟨bv, bx⟩ := b
  have h1 := ha.lo
  have h2 := ha.hi
  have c1 := Lib.hid fun w => valid_ok m cv cx w hc
  have c2 := Lib.hid fun w => alike_ok n av ax bv bx w ha hb
  have c3 := Lib.hid fun w => true_ok m ⟨cv, cx⟩ w hc
  have c4 := Lib.hid fun w => split_ok n ⟨av, ax⟩ w h2
  have c5 := Lib.hid fun w => split_ok n ⟨bv, bx⟩ w h2
  have c6 := Lib.hid fun w => join_ok n (one1 ⟨av, ax⟩ &&& one1 ⟨bv, bx⟩) (zero1 n ⟨av, ax⟩ &&& zero1 n ⟨bv, bx⟩) w h2
  have HV : Hid (vcond n ⟨cv, cx⟩ ⟨av, ax⟩ ⟨bv, bx⟩ = if tru ⟨cv, cx⟩ = 0 then ⟨bv, bx⟩ else if tru ⟨cv, cx⟩ = 1 then ⟨av, ax⟩ else jn n (one1 ⟨av, ax⟩ &&& one1 ⟨bv, bx⟩) (zero1 n ⟨av, ax⟩ &&& zero1 n ⟨bv, bx⟩)) := rfl
  generalize vcond n ⟨cv, cx⟩ ⟨av, ax⟩ ⟨bv, bx⟩ = V at HV ⊢
  generalize tru ⟨cv, cx⟩ = T at c3 HV
  clear hc ha hb
  go_enter Tryz.func36, Tryz.ntmps36
  go_wp2_with fail
  refine (c1.out _).mono ?_
  rintro e w1 ⟨rfl, hb1⟩
  obtain ⟨hc1, hf1⟩ := bcell hb1
  have b1 : Below w.heap.size w w1 := ((((((Below.refl _ _).alloc (Nat.le_refl _) _).alloc (by simp) _).alloc (by simp; omega) _).alloc (by simp; omega) _).trans (hb1.mono (by simp; omega)))
  have z0 : w.heap.size < w1.heap.size := bsize hb1 (by simp; omega)
  have z1 : w.heap.size + 1 < w1.heap.size := bsize hb1 (by first | (simp; done) | (simp; omega))
  have z2 : w.heap.size + 1 + 1 < w1.heap.size := bsize hb1 (by first | (simp; done) | (simp; omega))
  have z3 : w.heap.size + 1 + 1 + 1 < w1.heap.size := bsize hb1 (by simp)
  have pc0 : w1.cell? ⟨w.heap.size, 0, none⟩ = some (.int .i64 m) := by rw [hc1 _ _ (by first | (simp; done) | (simp; omega))]; go_simp
  have pc1 : w1.cell? ⟨w.heap.size, 1, none⟩ = some (.int .u64 (U cv)) := by rw [hc1 _ _ (by first | (simp; done) | (simp; omega))]; go_simp
  have pc2 : w1.cell? ⟨w.heap.size, 2, none⟩ = some (.int .u64 (U cx)) := by rw [hc1 _ _ (by first | (simp; done) | (simp; omega))]; go_simp
  have pa0 : w1.cell? ⟨w.heap.size + 1, 0, none⟩ = some (.int .i64 n) := by rw [hc1 _ _ (by first | (simp; done) | (simp; omega))]; go_simp
  have pa1 : w1.cell? ⟨w.heap.size + 1, 1, none⟩ = some (.int .u64 (U av)) := by rw [hc1 _ _ (by first | (simp; done) | (simp; omega))]; go_simp
  have pa2 : w1.cell? ⟨w.heap.size + 1, 2, none⟩ = some (.int .u64 (U ax)) := by rw [hc1 _ _ (by first | (simp; done) | (simp; omega))]; go_simp
  have pb0 : w1.cell? ⟨w.heap.size + 1 + 1, 0, none⟩ = some (.int .i64 n) := by rw [hc1 _ _ (by first | (simp; done) | (simp; omega))]; go_simp
  have pb1 : w1.cell? ⟨w.heap.size + 1 + 1, 1, none⟩ = some (.int .u64 (U bv)) := by rw [hc1 _ _ (by first | (simp; done) | (simp; omega))]; go_simp
  have pb2 : w1.cell? ⟨w.heap.size + 1 + 1, 2, none⟩ = some (.int .u64 (U bx)) := by rw [hc1 _ _ (by first | (simp; done) | (simp; omega))]; go_simp
  have pr0 : w1.cell? ⟨w.heap.size + 1 + 1 + 1, 0, none⟩ = some (.int .i64 0) := by rw [hc1 _ _ (by first | (simp; done) | (simp; omega))]; go_simp
  have pr1 : w1.cell? ⟨w.heap.size + 1 + 1 + 1, 1, none⟩ = some (.int .u64 0) := by rw [hc1 _ _ (by first | (simp; done) | (simp; omega))]; go_simp
  have pr2 : w1.cell? ⟨w.heap.size + 1 + 1 + 1, 2, none⟩ = some (.int .u64 0) := by rw [hc1 _ _ (by first | (simp; done) | (simp; omega))]; go_simp
  have pf : ∀ o, w1.frozen? ⟨w.heap.size + 1 + 1 + 1, o, none⟩ = false := fun o => by rw [hf1 _ _ (by simp)]; go_simp
  clear hc1 hf1 hb1
  go_wp2_with fail
  refine (c2.out _).mono ?_
  rintro e w2 ⟨rfl, hb2⟩
  obtain ⟨hc2, hf2⟩ := bcell hb2
  have b2 : Below w.heap.size w w2 := b1.trans (hb2.mono b1.size)
  replace pc0 := (hc2 _ _ z0).trans pc0
  replace pc1 := (hc2 _ _ z0).trans pc1
  replace pc2 := (hc2 _ _ z0).trans pc2
  replace pa0 := (hc2 _ _ z1).trans pa0
  replace pa1 := (hc2 _ _ z1).trans pa1
  replace pa2 := (hc2 _ _ z1).trans pa2
  replace pb0 := (hc2 _ _ z2).trans pb0
  replace pb1 := (hc2 _ _ z2).trans pb1
  replace pb2 := (hc2 _ _ z2).trans pb2
  replace pr0 := (hc2 _ _ z3).trans pr0
  replace pr1 := (hc2 _ _ z3).trans pr1
  replace pr2 := (hc2 _ _ z3).trans pr2
  replace pf := fun o => (hf2 _ _ z3).trans (pf o)
  replace z0 := Nat.lt_of_lt_of_le z0 hb2.size
  replace z1 := Nat.lt_of_lt_of_le z1 hb2.size
  replace z2 := Nat.lt_of_lt_of_le z2 hb2.size
  replace z3 := Nat.lt_of_lt_of_le z3 hb2.size
  clear hc2 hf2 hb2
  go_wp2_with fail
  refine (c3.out _).mono ?_
  rintro e w3 ⟨rfl, hb3⟩
  obtain ⟨hc3, hf3⟩ := bcell hb3
  have b3 : Below w.heap.size w w3 := b2.trans (hb3.mono b2.size)
  replace pc0 := (hc3 _ _ z0).trans pc0
  replace pc1 := (hc3 _ _ z0).trans pc1
  replace pc2 := (hc3 _ _ z0).trans pc2
  replace pa0 := (hc3 _ _ z1).trans pa0
  replace pa1 := (hc3 _ _ z1).trans pa1
  replace pa2 := (hc3 _ _ z1).trans pa2
  replace pb0 := (hc3 _ _ z2).trans pb0
  replace pb1 := (hc3 _ _ z2).trans pb1
  replace pb2 := (hc3 _ _ z2).trans pb2
  replace pr0 := (hc3 _ _ z3).trans pr0
  replace pr1 := (hc3 _ _ z3).trans pr1
  replace pr2 := (hc3 _ _ z3).trans pr2
  replace pf := fun o => (hf3 _ _ z3).trans (pf o)
  replace z0 := Nat.lt_of_lt_of_le z0 hb3.size
  replace z1 := Nat.lt_of_lt_of_le z1 hb3.size
  replace z2 := Nat.lt_of_lt_of_le z2 hb3.size
  replace z3 := Nat.lt_of_lt_of_le z3 hb3.size
  clear hc3 hf3 hb3
  by_cases k0 : T = 0
  · have t0 : (T == 0) = true := by simpa using k0
    replace HV : Hid (V = ⟨bv, bx⟩) := HV.out.trans (if_pos k0)
    clear k0
    go_wp2_with fail
    exact bodyPost_ret (v := .agg #[.int .i64 n, .int .u64 (U bv), .int .u64 (U bx)]) (by simp [results, Tryz.results36, go_sem, pr0, pr1, pr2]) rfl ⟨by rw [HV.out], (by (repeat (first | (with_reducible exact b3) | (with_reducible exact Nat.le_refl _) | (with_reducible refine Below.setCell ?_ ?_ _) | (with_reducible refine Below.alloc ?_ ?_ _) | (with_reducible refine below_drewN ?_ _) | (with_reducible refine Below.drew ?_))) <;> (first | omega | (simp <;> omega)))⟩
  have t0 : (T == 0) = false := by simpa using k0
  replace HV : Hid (V = if T = 1 then ⟨av, ax⟩ else jn n (one1 ⟨av, ax⟩ &&& one1 ⟨bv, bx⟩) (zero1 n ⟨av, ax⟩ &&& zero1 n ⟨bv, bx⟩)) := HV.out.trans (if_neg k0)
  clear k0
  by_cases k1 : T = 1
  · have t1 : (T == 1) = true := by simpa using k1
    replace HV : Hid (V = ⟨av, ax⟩) := HV.out.trans (if_pos k1)
    clear k1
    go_wp2_with fail
    exact bodyPost_ret (v := .agg #[.int .i64 n, .int .u64 (U av), .int .u64 (U ax)]) (by simp [results, Tryz.results36, go_sem, pr0, pr1, pr2]) rfl ⟨by rw [HV.out], (by (repeat (first | (with_reducible exact b3) | (with_reducible exact Nat.le_refl _) | (with_reducible refine Below.setCell ?_ ?_ _) | (with_reducible refine Below.alloc ?_ ?_ _) | (with_reducible refine below_drewN ?_ _) | (with_reducible refine Below.drew ?_))) <;> (first | omega | (simp <;> omega)))⟩
  have t1 : (T == 1) = false := by simpa using k1
  replace HV : Hid (V = jn n (one1 ⟨av, ax⟩ &&& one1 ⟨bv, bx⟩) (zero1 n ⟨av, ax⟩ &&& zero1 n ⟨bv, bx⟩)) := HV.out.trans (if_neg k1)
  clear k1
  go_wp2_with fail
  refine (c4.out _).mono ?_
  rintro e w4 ⟨rfl, hb4⟩
  obtain ⟨hc4, hf4⟩ := bcell hb4
  have b4 : Below w.heap.size w w4 := b3.trans (hb4.mono b3.size)
  replace pc0 := (hc4 _ _ z0).trans pc0
  replace pc1 := (hc4 _ _ z0).trans pc1
  replace pc2 := (hc4 _ _ z0).trans pc2
  replace pa0 := (hc4 _ _ z1).trans pa0
  replace pa1 := (hc4 _ _ z1).trans pa1
  replace pa2 := (hc4 _ _ z1).trans pa2
  replace pb0 := (hc4 _ _ z2).trans pb0
  replace pb1 := (hc4 _ _ z2).trans pb1
  replace pb2 := (hc4 _ _ z2).trans pb2
  replace pr0 := (hc4 _ _ z3).trans pr0
  replace pr1 := (hc4 _ _ z3).trans pr1
  replace pr2 := (hc4 _ _ z3).trans pr2
  replace pf := fun o => (hf4 _ _ z3).trans (pf o)
  replace z0 := Nat.lt_of_lt_of_le z0 hb4.size
  replace z1 := Nat.lt_of_lt_of_le z1 hb4.size
  replace z2 := Nat.lt_of_lt_of_le z2 hb4.size
  replace z3 := Nat.lt_of_lt_of_le z3 hb4.size
  clear hc4 hf4 hb4
  go_wp2_with fail
  refine (c5.out _).mono ?_
  rintro e w5 ⟨rfl, hb5⟩
  obtain ⟨hc5, hf5⟩ := bcell hb5
  have b5 : Below w.heap.size w w5 := b4.trans (hb5.mono b4.size)
  replace pc0 := (hc5 _ _ z0).trans pc0
  replace pc1 := (hc5 _ _ z0).trans pc1
  replace pc2 := (hc5 _ _ z0).trans pc2
  replace pa0 := (hc5 _ _ z1).trans pa0
  replace pa1 := (hc5 _ _ z1).trans pa1
  replace pa2 := (hc5 _ _ z1).trans pa2
  replace pb0 := (hc5 _ _ z2).trans pb0
  replace pb1 := (hc5 _ _ z2).trans pb1
  replace pb2 := (hc5 _ _ z2).trans pb2
  replace pr0 := (hc5 _ _ z3).trans pr0
  replace pr1 := (hc5 _ _ z3).trans pr1
  replace pr2 := (hc5 _ _ z3).trans pr2
  replace pf := fun o => (hf5 _ _ z3).trans (pf o)
  replace z0 := Nat.lt_of_lt_of_le z0 hb5.size
  replace z1 := Nat.lt_of_lt_of_le z1 hb5.size
  replace z2 := Nat.lt_of_lt_of_le z2 hb5.size
  replace z3 := Nat.lt_of_lt_of_le z3 hb5.size
  clear hc5 hf5 hb5
  go_wp2_with fail
  refine (c6.out _).mono ?_
  rintro e w6 ⟨rfl, hb6⟩
  obtain ⟨hc6, hf6⟩ := bcell hb6
  have b6 : Below w.heap.size w w6 := b5.trans (hb6.mono b5.size)
  replace pr0 := (hc6 _ _ z3).trans pr0
  replace pr1 := (hc6 _ _ z3).trans pr1
  replace pr2 := (hc6 _ _ z3).trans pr2
  replace pf := fun o => (hf6 _ _ z3).trans (pf o)
  clear hc6 hf6 hb6
  go_wp2_with fail
  exact bodyPost_ret (v := .agg #[.int .i64 n, .int .u64 (U (jn n (one1 ⟨av, ax⟩ &&& one1 ⟨bv, bx⟩) (zero1 n ⟨av, ax⟩ &&& zero1 n ⟨bv, bx⟩)).v), .int .u64 (U (jn n (one1 ⟨av, ax⟩ &&& one1 ⟨bv, bx⟩) (zero1 n ⟨av, ax⟩ &&& zero1 n ⟨bv, bx⟩)).x)]) (by simp [results, Tryz.results36, go_sem, pr0, pr1, pr2]) rfl ⟨by rw [HV.out], (by (repeat (first | (with_reducible exact b6) | (with_reducible exact Nat.le_refl _) | (with_reducible refine Below.setCell ?_ ?_ _) | (with_reducible refine Below.alloc ?_ ?_ _) | (with_reducible refine below_drewN ?_ _) | (with_reducible refine Below.drew ?_))) <;> (first | omega | (simp <;> omega)))⟩
end Go.Proofs.YtmaokbdjahgkiaaGreatDoor
