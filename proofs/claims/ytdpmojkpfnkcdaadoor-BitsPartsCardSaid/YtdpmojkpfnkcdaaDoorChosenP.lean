/- Fits, Resolve and Cond of any vectors. -/
import Derived.Test.YtdpmojkpfnkcdaaDoorRaw
import Derived.Test.YtdpmojkpfnkcdaaDoorOps
import Derived.Test.YtdpmojkpfnkcdaaDoorDigits
import Derived.Lib.QuietBelow
namespace Go.Proofs.YtdpmojkpfnkcdaaDoor
open Go Go.RowKit Go.Sort
set_option linter.unusedVariables false
/-- do two vectors of one width fit each other -/
def vfits (a b : Vx) (kind : Int) : Bool :=
  if kind = 0 then diff1 a b == 0#64 else if kind = 1 then diff1 a b &&& ~~~(free1 a ||| free1 b) == 0#64 else if kind = 2 then diff1 a b &&& ~~~(a.x ||| b.x) == 0#64 else false
set_option maxRecDepth 100000 in
set_option maxHeartbeats 1000000 in
theorem fits_no (a b : Rb) (kind : Int) (w : World) (h : alikeB a b = false) : Calls Tryd.prog 24 #[.agg #[.int .i64 a.W, .int .u64 (U a.v), .int .u64 (U a.x)], .agg #[.int .i64 b.W, .int .u64 (U b.v), .int .u64 (U b.x)], .int .i64 kind] w fun e w' => e = .returned (.bool false) ∧ Below w.heap.size w w' := by
  obtain ⟨aW, av, ax⟩ := a
  obtain ⟨bW, bv, bx⟩ := b
  have c := Lib.hid fun w => alike_no ⟨aW, av, ax⟩ ⟨bW, bv, bx⟩ w h
  clear h
  show Calls Tryd.prog 24 #[.agg #[.int .i64 aW, .int .u64 (U av), .int .u64 (U ax)], .agg #[.int .i64 bW, .int .u64 (U bv), .int .u64 (U bx)], .int .i64 kind] w _
  go_enter Tryd.func24, Tryd.ntmps24
  go_wp2_with fail
  refine (c.out _).mono ?_
  rintro e w1 ⟨rfl, hb1⟩
  go_wp2_with fail
  go_ret
  exact ⟨rfl, (((Below.refl _ _).alloc (Nat.le_refl _) _).alloc (by simp) _).trans (hb1.mono (by simp; omega))⟩
set_option maxRecDepth 100000 in
set_option maxHeartbeats 1000000 in
theorem fits_ok (n : Nat) (a b : Vx) (kind : Int) (w : World) (ha : a.ok n) (hb : b.ok n) : Calls Tryd.prog 24 #[.agg #[.int .i64 n, .int .u64 (U a.v), .int .u64 (U a.x)], .agg #[.int .i64 n, .int .u64 (U b.v), .int .u64 (U b.x)], .int .i64 kind] w fun e w' => e = .returned (.bool (vfits a b kind)) ∧ Below w.heap.size w w' := by
  obtain ⟨av, ax⟩ := a
  obtain ⟨bv, bx⟩ := b
  have c := Lib.hid fun w => alike_ok n av ax bv bx w ha hb
  have cd := Lib.hid fun w => differ_ok n n ⟨av, ax⟩ ⟨bv, bx⟩ w
  have h1 := ha.lo
  have h2 := ha.hi
  generalize hD : diff1 ⟨av, ax⟩ ⟨bv, bx⟩ = D at cd
  have HD := Lib.hid hD
  clear hD ha hb
  go_enter Tryd.func24, Tryd.ntmps24
  go_wp2_with fail
  refine (c.out _).mono ?_
  rintro e w1 ⟨rfl, hb1⟩
  obtain ⟨hc1, hf1⟩ := bcell hb1
  have z1 : w.heap.size < w1.heap.size := bsize hb1 (by simp; omega)
  have z2 : w.heap.size + 1 < w1.heap.size := bsize hb1 (by simp)
  have b1 : Below w.heap.size w w1 := (((Below.refl _ _).alloc (Nat.le_refl _) _).alloc (by simp) _).trans (hb1.mono (by simp; omega))
  go_wp2_with fail
  refine (cd.out _).mono ?_
  rintro e w2 ⟨rfl, hb2⟩
  obtain ⟨hc2, hf2⟩ := bcell hb2
  have b2 : Below w.heap.size w w2 := b1.trans (hb2.mono b1.size)
  have p0 : w2.cell? ⟨w.heap.size, 0, none⟩ = some (.int .i64 n) := by rw [hc2 _ _ z1, hc1 _ _ (by simp; omega)]; go_simp
  have p1 : w2.cell? ⟨w.heap.size, 1, none⟩ = some (.int .u64 (U av)) := by rw [hc2 _ _ z1, hc1 _ _ (by simp; omega)]; go_simp
  have p2 : w2.cell? ⟨w.heap.size, 2, none⟩ = some (.int .u64 (U ax)) := by rw [hc2 _ _ z1, hc1 _ _ (by simp; omega)]; go_simp
  have q0 : w2.cell? ⟨w.heap.size + 1, 0, none⟩ = some (.int .i64 n) := by rw [hc2 _ _ z2, hc1 _ _ (by simp)]; go_simp
  have q1 : w2.cell? ⟨w.heap.size + 1, 1, none⟩ = some (.int .u64 (U bv)) := by rw [hc2 _ _ z2, hc1 _ _ (by simp)]; go_simp
  have q2 : w2.cell? ⟨w.heap.size + 1, 2, none⟩ = some (.int .u64 (U bx)) := by rw [hc2 _ _ z2, hc1 _ _ (by simp)]; go_simp
  clear hc1 hf1 hc2 hf2 hb1 hb2
  by_cases k0 : kind = 0
  · have t : (kind == 0) = true := by simpa using k0
    have HF : Hid (vfits ⟨av, ax⟩ ⟨bv, bx⟩ kind = (D == 0#64)) := by show _ = _; unfold vfits; rw [if_pos k0, HD.out]
    clear k0
    go_wp2_with fail
    go_ret
    exact ⟨congrArg (fun b => Ending.returned (.bool b)) HF.out.symm, b2⟩
  have t0 : (kind == 0) = false := by simpa using k0
  by_cases k1 : kind = 1
  · have t : (kind == 1) = true := by simpa using k1
    have HF : Hid (vfits ⟨av, ax⟩ ⟨bv, bx⟩ kind = (D &&& ~~~(free1 ⟨av, ax⟩ ||| free1 ⟨bv, bx⟩) == 0#64)) := by show _ = _; unfold vfits; rw [if_neg k0, if_pos k1, HD.out]
    clear k0 k1
    have r0 := cell_regrown p0
    have r1 := cell_regrown p1
    have r2 := cell_regrown p2
    have s0 := cell_regrown q0
    have s1 := cell_regrown q1
    have s2 := cell_regrown q2
    have cA : ∀ d os, Calls Tryd.prog 54 #[.agg #[.int .i64 n, .int .u64 (U av), .int .u64 (U ax)]] (grow (redrawn w2 d) os) fun e w'' => e = .returned (.int .u64 (U (free1 ⟨av, ax⟩))) ∧ ∃ p : Regrown, w'' = grow (redrawn w2 p.d) p.os := fun d os => Calls.regrown_of (floating_ok n ⟨av, ax⟩ _)
    have cB : ∀ d os, Calls Tryd.prog 54 #[.agg #[.int .i64 n, .int .u64 (U bv), .int .u64 (U bx)]] (grow (redrawn w2 d) os) fun e w'' => e = .returned (.int .u64 (U (free1 ⟨bv, bx⟩))) ∧ ∃ p : Regrown, w'' = grow (redrawn w2 p.d) p.os := fun d os => Calls.regrown_of (floating_ok n ⟨bv, bx⟩ _)
    go_wp2_with fail
    refine wp_region_quiet_below (by kernel_rfl) (by kernel_rfl) ?_
    repeat (quiet_step (first | (with_reducible exact cA _ _) | (with_reducible exact cB _ _)))
    refine wpQuiet_nil ?_
    intro _ hw'
    obtain ⟨⟨dq, osq⟩, hw''⟩ := hw'
    subst hw''
    go_wp2_with fail
    go_ret
    exact ⟨congrArg (fun b => Ending.returned (.bool b)) HF.out.symm, b2.trans ((below_regrown w2 dq osq).mono b2.size)⟩
  have t1 : (kind == 1) = false := by simpa using k1
  by_cases k2 : kind = 2
  · have t : (kind == 2) = true := by simpa using k2
    have HF : Hid (vfits ⟨av, ax⟩ ⟨bv, bx⟩ kind = (D &&& ~~~(ax ||| bx) == 0#64)) := by show _ = _; unfold vfits; rw [if_neg k0, if_neg k1, if_pos k2, HD.out]
    clear k0 k1 k2
    go_wp2_with fail
    go_ret
    exact ⟨congrArg (fun b => Ending.returned (.bool b)) HF.out.symm, b2⟩
  · have t : (kind == 2) = false := by simpa using k2
    have HF : Hid (vfits ⟨av, ax⟩ ⟨bv, bx⟩ kind = false) := by show _ = _; unfold vfits; rw [if_neg k0, if_neg k1, if_neg k2]
    clear k0 k1 k2
    go_wp2_with fail
    go_ret
    exact ⟨congrArg (fun b => Ending.returned (.bool b)) HF.out.symm, b2⟩
set_option maxRecDepth 100000 in
set_option maxHeartbeats 1000000 in
theorem resolve_no (a b : Rb) (w : World) (h : alikeB a b = false) : Calls Tryd.prog 26 #[.agg #[.int .i64 a.W, .int .u64 (U a.v), .int .u64 (U a.x)], .agg #[.int .i64 b.W, .int .u64 (U b.v), .int .u64 (U b.x)]] w fun e w' => e = .returned (.agg #[.int .i64 0, .int .u64 0, .int .u64 0]) ∧ Below w.heap.size w w' := by
  obtain ⟨aW, av, ax⟩ := a
  obtain ⟨bW, bv, bx⟩ := b
  have c := Lib.hid fun w => alike_no ⟨aW, av, ax⟩ ⟨bW, bv, bx⟩ w h
  clear h
  show Calls Tryd.prog 26 #[.agg #[.int .i64 aW, .int .u64 (U av), .int .u64 (U ax)], .agg #[.int .i64 bW, .int .u64 (U bv), .int .u64 (U bx)]] w _
  go_enter Tryd.func26, Tryd.ntmps26
  go_wp2_with fail
  refine (c.out _).mono ?_
  rintro e w1 ⟨rfl, hb1⟩
  obtain ⟨hc1, hf1⟩ := bcell hb1
  have z3 : w.heap.size + 1 + 1 < w1.heap.size := bsize hb1 (by simp)
  have b1 : Below w.heap.size w w1 := ((((Below.refl _ _).alloc (Nat.le_refl _) _).alloc (by simp) _).alloc (by simp; omega) _).trans (hb1.mono (by simp; omega))
  have r0 : w1.cell? ⟨w.heap.size + 1 + 1, 0, none⟩ = some (.int .i64 0) := by rw [hc1 _ _ (by simp)]; go_simp
  have r1 : w1.cell? ⟨w.heap.size + 1 + 1, 1, none⟩ = some (.int .u64 0) := by rw [hc1 _ _ (by simp)]; go_simp
  have r2 : w1.cell? ⟨w.heap.size + 1 + 1, 2, none⟩ = some (.int .u64 0) := by rw [hc1 _ _ (by simp)]; go_simp
  have rf : ∀ o, w1.frozen? ⟨w.heap.size + 1 + 1, o, none⟩ = false := fun o => by rw [hf1 _ _ (by simp)]; go_simp
  clear hc1 hf1 hb1
  go_wp2_with fail
  exact bodyPost_ret (v := .agg #[.int .i64 0, .int .u64 0, .int .u64 0]) (by simp [results, Tryd.results26, go_sem, r0, r1, r2]) rfl ⟨rfl, (by (repeat (first | (with_reducible exact b1) | (with_reducible exact Nat.le_refl _) | (with_reducible refine Below.setCell ?_ ?_ _) | (with_reducible refine Below.alloc ?_ ?_ _) | (with_reducible refine below_drewN ?_ _) | (with_reducible refine Below.drew ?_))) <;> (first | omega | (simp <;> omega)))⟩
set_option maxRecDepth 100000 in
set_option maxHeartbeats 2000000 in
theorem resolve_ok (n : Nat) (a b : Vx) (w : World) (ha : a.ok n) (hb : b.ok n) : Calls Tryd.prog 26 #[.agg #[.int .i64 n, .int .u64 (U a.v), .int .u64 (U a.x)], .agg #[.int .i64 n, .int .u64 (U b.v), .int .u64 (U b.x)]] w fun e w' => e = .returned (.agg #[.int .i64 n, .int .u64 (U (vres a b).v), .int .u64 (U (vres a b).x)]) ∧ Below w.heap.size w w' := by
  obtain ⟨av, ax⟩ := a
  obtain ⟨bv, bx⟩ := b
  have c := Lib.hid fun w => alike_ok n av ax bv bx w ha hb
  unfold vres
  generalize hD : diff1 ⟨av, ax⟩ ⟨bv, bx⟩ = D
  generalize hF : free1 ⟨av, ax⟩ = F
  generalize hE : free1 ⟨bv, bx⟩ = E
  have cd := Lib.hid fun w => differ_ok n n ⟨av, ax⟩ ⟨bv, bx⟩ w
  have cf := Lib.hid fun w => floating_ok n ⟨av, ax⟩ w
  have ce := Lib.hid fun w => floating_ok n ⟨bv, bx⟩ w
  rw [hD] at cd
  rw [hF] at cf
  rw [hE] at ce
  clear hD hF hE ha hb
  go_enter Tryd.func26, Tryd.ntmps26
  go_wp2_with fail
  refine (c.out _).mono ?_
  rintro e w1 ⟨rfl, hb1⟩
  obtain ⟨hc1, hf1⟩ := bcell hb1
  have z1 : w.heap.size < w1.heap.size := bsize hb1 (by simp; omega)
  have z2 : w.heap.size + 1 < w1.heap.size := bsize hb1 (by simp)
  have z3 : w.heap.size + 1 + 1 < w1.heap.size := bsize hb1 (by simp)
  have b1 : Below w.heap.size w w1 := ((((Below.refl _ _).alloc (Nat.le_refl _) _).alloc (by simp) _).alloc (by simp; omega) _).trans (hb1.mono (by simp; omega))
  go_wp2_with fail
  refine (cf.out _).mono ?_
  rintro e w2 ⟨rfl, hb2⟩
  obtain ⟨hc2, hf2⟩ := bcell hb2
  have b2 : Below w.heap.size w w2 := b1.trans (hb2.mono b1.size)
  have p0 : w2.cell? ⟨w.heap.size, 0, none⟩ = some (.int .i64 n) := by rw [hc2 _ _ z1, hc1 _ _ (by simp; omega)]; go_simp
  have p1 : w2.cell? ⟨w.heap.size, 1, none⟩ = some (.int .u64 (U av)) := by rw [hc2 _ _ z1, hc1 _ _ (by simp; omega)]; go_simp
  have p2 : w2.cell? ⟨w.heap.size, 2, none⟩ = some (.int .u64 (U ax)) := by rw [hc2 _ _ z1, hc1 _ _ (by simp; omega)]; go_simp
  have q0 : w2.cell? ⟨w.heap.size + 1, 0, none⟩ = some (.int .i64 n) := by rw [hc2 _ _ z2, hc1 _ _ (by simp)]; go_simp
  have q1 : w2.cell? ⟨w.heap.size + 1, 1, none⟩ = some (.int .u64 (U bv)) := by rw [hc2 _ _ z2, hc1 _ _ (by simp)]; go_simp
  have q2 : w2.cell? ⟨w.heap.size + 1, 2, none⟩ = some (.int .u64 (U bx)) := by rw [hc2 _ _ z2, hc1 _ _ (by simp)]; go_simp
  have g0 : w2.cell? ⟨w.heap.size + 1 + 1, 0, none⟩ = some (.int .i64 0) := by rw [hc2 _ _ z3, hc1 _ _ (by simp)]; go_simp
  have g1 : w2.cell? ⟨w.heap.size + 1 + 1, 1, none⟩ = some (.int .u64 0) := by rw [hc2 _ _ z3, hc1 _ _ (by simp)]; go_simp
  have g2 : w2.cell? ⟨w.heap.size + 1 + 1, 2, none⟩ = some (.int .u64 0) := by rw [hc2 _ _ z3, hc1 _ _ (by simp)]; go_simp
  have gf : ∀ o, w2.frozen? ⟨w.heap.size + 1 + 1, o, none⟩ = false := fun o => by rw [hf2 _ _ z3, hf1 _ _ (by simp)]; go_simp
  clear hc1 hf1 hc2 hf2 hb1 hb2 z1 z2 z3
  have r0 := cell_regrown p0
  have r1 := cell_regrown p1
  have r2 := cell_regrown p2
  have s0 := cell_regrown q0
  have s1 := cell_regrown q1
  have s2 := cell_regrown q2
  have cA : ∀ d os, Calls Tryd.prog 53 #[.agg #[.int .i64 n, .int .u64 (U av), .int .u64 (U ax)], .agg #[.int .i64 n, .int .u64 (U bv), .int .u64 (U bx)]] (grow (redrawn w2 d) os) fun e w'' => e = .returned (.int .u64 (U D)) ∧ ∃ p : Regrown, w'' = grow (redrawn w2 p.d) p.os := fun d os => Calls.regrown_of (cd.out _)
  have cB : ∀ d os, Calls Tryd.prog 54 #[.agg #[.int .i64 n, .int .u64 (U bv), .int .u64 (U bx)]] (grow (redrawn w2 d) os) fun e w'' => e = .returned (.int .u64 (U E)) ∧ ∃ p : Regrown, w'' = grow (redrawn w2 p.d) p.os := fun d os => Calls.regrown_of (ce.out _)
  go_wp2_with fail
  refine wp_region_quiet_below (by kernel_rfl) (by kernel_rfl) ?_
  repeat (quiet_step (first | (with_reducible exact cA _ _) | (with_reducible exact cB _ _)))
  refine wpQuiet_nil ?_
  intro _ hw'
  obtain ⟨⟨dq, osq⟩, hw''⟩ := hw'
  subst hw''
  have hb3 := below_regrown w2 dq osq
  obtain ⟨hc3, hf3⟩ := bcell hb3
  have z3 : w.heap.size + 1 + 1 < w2.heap.size := World.block_lt_of_cell? w2 _ g0
  have b3 : Below w.heap.size w (grow (redrawn w2 dq) osq) := b2.trans (hb3.mono b2.size)
  replace r0 := r0 dq osq
  replace r1 := r1 dq osq
  replace r2 := r2 dq osq
  replace s0 := s0 dq osq
  replace s1 := s1 dq osq
  replace s2 := s2 dq osq
  have t0 := cell_regrown g0 dq osq
  have t1 := cell_regrown g1 dq osq
  have t2 := cell_regrown g2 dq osq
  have tf : ∀ o, (grow (redrawn w2 dq) osq).frozen? ⟨w.heap.size + 1 + 1, o, none⟩ = false := fun o => by rw [hf3 _ _ z3]; exact gf o
  clear cA cB hc3 hf3 hb3 p0 p1 p2 q0 q1 q2 g0 g1 g2 gf
  generalize grow (redrawn w2 dq) osq = w3 at r0 r1 r2 s0 s1 s2 t0 t1 t2 tf b3 ⊢
  go_wp2_with fail
  exact bodyPost_ret (v := .agg #[.int .i64 n, .int .u64 (U ((av &&& ~~~F ||| bv &&& F) ||| D &&& ~~~(F ||| E))), .int .u64 (U ((ax &&& ~~~F ||| bx &&& F) ||| D &&& ~~~(F ||| E)))]) (by simp [results, Tryd.results26, go_sem, t0, t1, t2]) rfl ⟨rfl, (by (repeat (first | (with_reducible exact b3) | (with_reducible exact Nat.le_refl _) | (with_reducible refine Below.setCell ?_ ?_ _) | (with_reducible refine Below.alloc ?_ ?_ _) | (with_reducible refine below_drewN ?_ _) | (with_reducible refine Below.drew ?_))) <;> (first | omega | (simp <;> omega)))⟩
end Go.Proofs.YtdpmojkpfnkcdaaDoor
