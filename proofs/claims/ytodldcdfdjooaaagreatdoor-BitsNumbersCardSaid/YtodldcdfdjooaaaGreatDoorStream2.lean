/- The makers' stream: vectors and widths. -/
import Derived.Test.YtodldcdfdjooaaaGreatDoorStream
namespace Go.Proofs.YtodldcdfdjooaaaGreatDoor
open Go Go.RowKit
set_option linter.unusedVariables false
theorem and_U (x : Int) (m : BitVec 64) : bits .and .u64 x (U m) = U (BitVec.ofInt 64 x &&& m) := by
  have h1 : BitVec.ofInt 64 (U m) = m := by unfold U; simp
  have := (BitVec.ofInt 64 x &&& m).isLt
  show IntKind.u64.wrap ((BitVec.ofInt 64 x &&& BitVec.ofInt 64 (U m)).toNat : Int) = _
  rw [h1, IntKind.wrap_u64]; unfold U; omega
theorem ret_vec {n : Nat} {x : Int} {V : BitVec 64} (h : x = U V) : Ending.returned (.agg #[.int .i64 n, .int .u64 x, .int .u64 0]) = .returned (.agg #[.int .i64 n, .int .u64 (U (⟨V, 0#64⟩ : Vx).v), .int .u64 (U (⟨V, 0#64⟩ : Vx).x)]) := by rw [h]; rfl
theorem grown_cell {b : Nat} {W w : World} (hg : W.grownBy w (some b)) {p : Nat} (hp : p < W.heap.size) (hne : b ≠ p) :
    (∀ o, w.cell? ⟨p, o, none⟩ = W.cell? ⟨p, o, none⟩) ∧ (∀ o, w.frozen? ⟨p, o, none⟩ = W.frozen? ⟨p, o, none⟩) ∧ p < w.heap.size :=
  ⟨fun o => World.cell?_of_block (a := ⟨p, o, none⟩) (hg.block p hp (by simpa using fun h => hne h.symm)), fun o => World.frozen?_of_block (a := ⟨p, o, none⟩) (hg.block p hp (by simpa using fun h => hne h.symm)), Nat.lt_of_lt_of_le hp hg.size⟩
theorem adv_of {b : Nat} {a : Option Addr} {len cap k c : Nat} {w W w3 w4 : World} (hS : Str b a len cap k w) (A : Adv b a len cap k c W w3) (hW : Below w.heap.size w W) (hb : Below w.heap.size w3 w4) (hl : b < w.heap.size) :
    Adv b a len cap k c w w4 := by
  obtain ⟨⟨k1, hk1, s1⟩, g1⟩ := A
  have gr : w.grownBy w4 (some b) := ⟨hb.os.trans (g1.os.trans hW.os), hb.tape.trans (g1.tape.trans hW.tape), hb.output.trans (g1.output.trans hW.output), Nat.le_trans hW.size (Nat.le_trans g1.size hb.size),
    fun i hi hne => (hb.block i hi).trans ((g1.block i (Nat.lt_of_lt_of_le hi hW.size) hne).trans (hW.block i hi))⟩
  exact ⟨⟨k1, hk1, (hb.cell (p := ⟨b, 0, none⟩) hl).trans s1.c0, (hb.cell (p := ⟨b, 1, none⟩) hl).trans s1.c1, (hb.frozen (p := ⟨b, 1, none⟩) hl).trans s1.fz, hS.rd.kept gr⟩, gr⟩
set_option maxHeartbeats 1000000 in
theorem known_any (b len cap : Nat) (a : Option Addr) (k : Nat) (hk : k ≤ 800000) (n : Nat) (h1 : 1 ≤ n) (h2 : n ≤ 64) (w : World) (hS : Str b a len cap k w) :
    Calls Tryz.prog 25 #[.pointer (some ⟨b, 0, none⟩), .int .i64 n] w (SomeVx n (fun V => V.x = 0#64) (Adv b a len cap k 5 w)) := by
  go_enter Tryz.func25, Tryz.ntmps25
  go_wp2_with fail
  have hl : b < w.heap.size := World.block_lt_of_cell? w _ hS.c0
  refine (word_any b len cap a k (by omega) _ (hS.below ((Below.refl _ _).alloc (Nat.le_refl _) _))).mono ?_
  rintro e w1 ⟨V, rfl, A1⟩
  obtain ⟨k1, hk1, S1⟩ := A1.st
  go_wp2_with fail
  refine (next_any b len cap a k1 _ (by omega) (by omega) (by omega) _ S1).mono ?_
  rintro e w2 ⟨r2, hr2, rfl, A2⟩
  obtain ⟨k2, hk2, S2⟩ := A2.st
  by_cases c0 : r2 = 0
  · subst c0
    go_wp2_with fail
    refine (next_any b len cap a k2 _ (by omega) (by omega) (by omega) _ S2).mono ?_
    rintro e w3 ⟨r3, hr3, rfl, A3⟩
    have A := adv_trans A1 hk1 (adv_trans A2 hk2 A3 (Nat.le_refl 2)) (Nat.le_refl 5)
    obtain ⟨gc, gf, gz⟩ := grown_cell A.gr (p := w.heap.size) (by simp) (by omega)
    go_wp2_with fail
    refine (mmask_any n h2 _).mono ?_
    rintro e w' ⟨rfl, rfl⟩
    go_wp2_with fail
    exact bodyPost_ret (v := .agg #[.int .i64 n, .int .u64 (U (kv n (BitVec.ofInt 64 r3)).v), .int .u64 (U (kv n (BitVec.ofInt 64 r3)).x)]) (by simp [results, Tryz.results25, go_sem, gc] <;> exact ⟨and_U _ _, rfl⟩) rfl ⟨(kv n (BitVec.ofInt 64 r3)), kv_ok h1 h2 _, rfl, rfl, adv_of hS A ((Below.refl _ _).alloc (Nat.le_refl _) _) (by (repeat (first | exact Below.refl _ _ | exact Nat.le_refl _ | refine below_drewN ?_ _ | refine Below.drew ?_ | refine Below.alloc ?_ ?_ _ | refine Below.setCell ?_ ?_ _ | refine below_step (by assumption) ?_ ?_)) <;> (first | omega | (simp <;> omega))) hl⟩
  · by_cases c1 : r2 = 1
    · subst c1
      go_wp2_with fail
      refine (next_any b len cap a k2 _ (by omega) (by omega) (by omega) _ S2).mono ?_
      rintro e w3 ⟨r3, hr3, rfl, A3⟩
      have A := adv_trans A1 hk1 (adv_trans A2 hk2 A3 (Nat.le_refl 2)) (Nat.le_refl 5)
      obtain ⟨gc, gf, gz⟩ := grown_cell A.gr (p := w.heap.size) (by simp) (by omega)
      go_wp2_with fail
      refine (mmask_any n h2 _).mono ?_
      rintro e w' ⟨rfl, rfl⟩
      go_wp2_with fail
      exact bodyPost_ret (v := .agg #[.int .i64 n, .int .u64 (U (kv n (BitVec.ofInt 64 (bits .xor .u64 IntKind.u64.max r3))).v), .int .u64 (U (kv n (BitVec.ofInt 64 (bits .xor .u64 IntKind.u64.max r3))).x)]) (by simp [results, Tryz.results25, go_sem, gc] <;> exact ⟨and_U _ _, rfl⟩) rfl ⟨(kv n (BitVec.ofInt 64 (bits .xor .u64 IntKind.u64.max r3))), kv_ok h1 h2 _, rfl, rfl, adv_of hS A ((Below.refl _ _).alloc (Nat.le_refl _) _) (by (repeat (first | exact Below.refl _ _ | exact Nat.le_refl _ | refine below_drewN ?_ _ | refine Below.drew ?_ | refine Below.alloc ?_ ?_ _ | refine Below.setCell ?_ ?_ _ | refine below_step (by assumption) ?_ ?_)) <;> (first | omega | (simp <;> omega))) hl⟩
    · by_cases c2 : r2 = 2
      · subst c2
        go_wp2_with fail
        refine (next_any b len cap a k2 _ (by omega) (by omega) (by omega) _ S2).mono ?_
        rintro e w3 ⟨r3, hr3, rfl, A3⟩
        have A := adv_trans A1 hk1 (adv_trans A2 hk2 A3 (Nat.le_refl 2)) (Nat.le_refl 5)
        obtain ⟨gc, gf, gz⟩ := grown_cell A.gr (p := w.heap.size) (by simp) (by omega)
        go_wp2_with fail
        refine (mmask_any n h2 _).mono ?_
        rintro e w' ⟨rfl, rfl⟩
        go_wp2_with fail
        exact bodyPost_ret (v := .agg #[.int .i64 n, .int .u64 (U (kv n (BitVec.ofInt 64 (IntKind.u64.wrap (2 ^ r3)))).v), .int .u64 (U (kv n (BitVec.ofInt 64 (IntKind.u64.wrap (2 ^ r3)))).x)]) (by simp [results, Tryz.results25, go_sem, gc] <;> exact ⟨and_U _ _, rfl⟩) rfl ⟨(kv n (BitVec.ofInt 64 (IntKind.u64.wrap (2 ^ r3)))), kv_ok h1 h2 _, rfl, rfl, adv_of hS A ((Below.refl _ _).alloc (Nat.le_refl _) _) (by (repeat (first | exact Below.refl _ _ | exact Nat.le_refl _ | refine below_drewN ?_ _ | refine Below.drew ?_ | refine Below.alloc ?_ ?_ _ | refine Below.setCell ?_ ?_ _ | refine below_step (by assumption) ?_ ?_)) <;> (first | omega | (simp <;> omega))) hl⟩
      · have e0 : ((r2 : Int) == 0) = false := by simpa using c0
        have e1 : ((r2 : Int) == 1) = false := beq_eq_false_iff_ne.2 (by omega)
        have e2 : ((r2 : Int) == 2) = false := beq_eq_false_iff_ne.2 (by omega)
        clear c0 c1 c2
        have A := adv_mono (adv_trans A1 hk1 A2 (Nat.le_refl 4)) (show 4 ≤ 5 by decide)
        obtain ⟨gc, gf, gz⟩ := grown_cell A.gr (p := w.heap.size) (by simp) (by omega)
        go_wp2_with fail
        refine (mmask_any n h2 _).mono ?_
        rintro e w' ⟨rfl, rfl⟩
        go_wp2_with fail
        exact bodyPost_ret (v := .agg #[.int .i64 n, .int .u64 (U (kv n (V)).v), .int .u64 (U (kv n (V)).x)]) (by simp [results, Tryz.results25, go_sem, gc] <;> exact ⟨rfl, rfl⟩) rfl ⟨(kv n (V)), kv_ok h1 h2 _, rfl, rfl, adv_of hS A ((Below.refl _ _).alloc (Nat.le_refl _) _) (by (repeat (first | exact Below.refl _ _ | exact Nat.le_refl _ | refine below_drewN ?_ _ | refine Below.drew ?_ | refine Below.alloc ?_ ?_ _ | refine Below.setCell ?_ ?_ _ | refine below_step (by assumption) ?_ ?_)) <;> (first | omega | (simp <;> omega))) hl⟩
set_option maxHeartbeats 1000000 in
theorem width_any (b len cap : Nat) (a : Option Addr) (k : Nat) (hk : k ≤ 800000) (w : World) (hS : Str b a len cap k w) :
    Calls Tryz.prog 20 #[.pointer (some ⟨b, 0, none⟩)] w (SomeNat (fun r => 1 ≤ r ∧ r ≤ 64) (Adv b a len cap k 2 w)) := by
  go_enter Tryz.func20, Tryz.ntmps20
  go_wp2_with fail
  refine (next_any b len cap a k _ (by omega) (by omega) (by omega) _ hS).mono ?_
  rintro e w1 ⟨r1, hr1, rfl, A1⟩
  obtain ⟨k1, hk1, S1⟩ := A1.st
  by_cases c0 : r1 = 0
  · subst c0
    go_wp2_with fail
    go_ret
    exact ⟨64, ⟨by decide, by decide⟩, rfl, adv_mono A1 (by decide)⟩
  · by_cases c1 : r1 = 1
    · subst c1
      go_wp2_with fail
      refine (range_any b len cap a k1 1 64 (by decide) (by decide) (by omega) _ S1).mono ?_
      rintro e w2 ⟨r2, hr2, rfl, A2⟩
      go_wp2_with fail
      go_ret
      exact ⟨r2, hr2, rfl, adv_trans A1 hk1 A2 (Nat.le_refl _)⟩
    · have e0 : ((r1 : Int) == 0) = false := by simpa using c0
      have e1 : ((r1 : Int) == 1) = false := beq_eq_false_iff_ne.2 (by omega)
      clear c0 c1
      go_wp2_with fail
      refine (range_any b len cap a k1 1 8 (by decide) (by decide) (by omega) _ S1).mono ?_
      rintro e w2 ⟨r2, hr2, rfl, A2⟩
      go_wp2_with fail
      go_ret
      exact ⟨r2, ⟨hr2.1, by have := hr2.2; omega⟩, rfl, adv_trans A1 hk1 A2 (Nat.le_refl _)⟩
theorem Str.drew' {b : Nat} {a : Option Addr} {len cap k : Nat} {w : World} (h : Str b a len cap k w) : Str b a len cap k w.drew := h.below (Below.refl _ _).drew
theorem adv_undrew {b : Nat} {a : Option Addr} {len cap k c : Nat} {w w' : World} (h : Adv b a len cap k c w.drew w') : Adv b a len cap k c w w' := ⟨h.st, ⟨h.gr.os, h.gr.tape, h.gr.output, h.gr.size, h.gr.block⟩⟩
set_option maxHeartbeats 1000000 in
theorem bits_any (b len cap : Nat) (a : Option Addr) (k : Nat) (hk : k ≤ 700000) (n : Nat) (h1 : 1 ≤ n) (h2 : n ≤ 64) (w : World) (hS : Str b a len cap k w) :
    Calls Tryz.prog 21 #[.pointer (some ⟨b, 0, none⟩), .int .i64 n] w (SomeVx n (fun _ => True) (Adv b a len cap k 9 w)) := by
  go_enter Tryz.func21, Tryz.ntmps21
  go_wp2_with fail
  have hl : b < w.heap.size := World.block_lt_of_cell? w _ hS.c0
  refine (known_any b len cap a k (by omega) n h1 h2 _ (hS.below ((Below.refl _ _).alloc (Nat.le_refl _) _))).mono ?_
  rintro e w1 ⟨V, hV, hx, rfl, A1⟩
  have HX := Lib.hid hx
  clear hx
  obtain ⟨k1, hk1, S1⟩ := A1.st
  obtain ⟨gc, gf, gz⟩ := grown_cell A1.gr (p := w.heap.size) (by simp) (by omega)
  go_wp2_with fail
  refine (next_any b len cap a k1 _ (by omega) (by omega) (by omega) _ (S1.below ((Below.refl _ _).alloc (Nat.le_refl _) _))).mono ?_
  rintro e w2 ⟨r2, hr2, rfl, A2⟩
  obtain ⟨k2, hk2, S2⟩ := A2.st
  by_cases c0 : r2 = 0
  · subst c0
    go_wp2_with fail
    refine (word_any b len cap a k2 (by omega) _ S2).mono ?_
    rintro e w3 ⟨Y, rfl, A3⟩
    have B := adv_trans A2 hk2 A3 (Nat.le_refl _)
    obtain ⟨pc, pf, pz⟩ := grown_cell B.gr (p := w1.heap.size) (by simp) (by omega)
    obtain ⟨qc, qf, qz⟩ := grown_cell B.gr (p := w.heap.size) (by first | omega | (simp <;> omega)) (by omega)
    have A := adv_mono (adv_trans (adv_below A1 ((Below.refl _ _).alloc (Nat.le_refl _) _)) hk1 B (Nat.le_refl _)) (show 9 ≤ 9 by decide)
    go_wp2_with fail
    refine (mmask_any n h2 _).mono ?_
    rintro e w' ⟨rfl, rfl⟩
    go_wp2_with fail
    exact bodyPost_ret (v := .agg #[.int .i64 n, .int .u64 (U (⟨V.v, Y &&& msk n⟩ : Vx).v), .int .u64 (U (⟨V.v, Y &&& msk n⟩ : Vx).x)]) (by simp [results, Tryz.results21, go_sem, gc, gz, qc]) rfl ⟨(⟨V.v, Y &&& msk n⟩ : Vx), ok_mk h1 h2 hV.subv (sub_and' (sub_msk h2)), trivial, rfl, adv_of hS A ((Below.refl _ _).alloc (Nat.le_refl _) _) (by (repeat (first | exact Below.refl _ _ | exact Nat.le_refl _ | refine below_drewN ?_ _ | refine Below.drew ?_ | refine Below.alloc ?_ ?_ _ | refine Below.setCell ?_ ?_ _ | refine below_step (by assumption) ?_ ?_)) <;> (first | omega | (simp <;> omega))) hl⟩
  · by_cases c1 : r2 = 1
    · subst c1
      go_wp2_with fail
      go_region_with (first | (go_at_call 45; refine (next_any b len cap a k2 _ (by omega) (by omega) (by omega) _ (by repeat (first | exact S2 | apply Str.drew'))).mono ?_; rintro e w3 ⟨r3, hr3, rfl, A3⟩; have B := adv_trans A2 hk2 (show Adv b a len cap k2 1 w2 w3 by first | exact A3 | exact adv_undrew A3 | exact adv_undrew (adv_undrew A3) | exact adv_undrew (adv_undrew (adv_undrew A3))) (Nat.le_refl _); obtain ⟨pc, pf, pz⟩ := grown_cell B.gr (p := w1.heap.size) (by simp) (by omega); obtain ⟨qc, qf, qz⟩ := grown_cell B.gr (p := w.heap.size) (by first | omega | (simp <;> omega)) (by omega)) | (go_at_call 47; refine (mmask_any n h2 _).mono ?_; rintro e w' ⟨rfl, rfl⟩))
      all_goals
        go_wp2_with fail
        have A := adv_mono (adv_trans (adv_below A1 ((Below.refl _ _).alloc (Nat.le_refl _) _)) hk1 B (Nat.le_refl _)) (show 7 ≤ 9 by decide)
        exact bodyPost_ret (v := .agg #[.int .i64 n, .int .u64 (U (⟨V.v, BitVec.ofInt 64 (IntKind.u64.wrap (2 ^ r3)) &&& msk n⟩ : Vx).v), .int .u64 (U (⟨V.v, BitVec.ofInt 64 (IntKind.u64.wrap (2 ^ r3)) &&& msk n⟩ : Vx).x)]) (by simp [results, Tryz.results21, go_sem, gc, gz, qc] <;> exact and_U _ _) rfl ⟨(⟨V.v, BitVec.ofInt 64 (IntKind.u64.wrap (2 ^ r3)) &&& msk n⟩ : Vx), ok_mk h1 h2 hV.subv (sub_and' (sub_msk h2)), trivial, rfl, adv_of hS A ((Below.refl _ _).alloc (Nat.le_refl _) _) (by (repeat (first | exact Below.refl _ _ | exact Nat.le_refl _ | refine below_drewN ?_ _ | refine Below.drew ?_ | refine Below.alloc ?_ ?_ _ | refine Below.setCell ?_ ?_ _ | refine below_step (by assumption) ?_ ?_)) <;> (first | omega | (simp <;> omega))) hl⟩
    · by_cases c2 : r2 = 2
      · subst c2
        have B := A2
        obtain ⟨pc, pf, pz⟩ := grown_cell B.gr (p := w1.heap.size) (by simp) (by omega)
        obtain ⟨qc, qf, qz⟩ := grown_cell B.gr (p := w.heap.size) (by first | omega | (simp <;> omega)) (by omega)
        have A := adv_mono (adv_trans (adv_below A1 ((Below.refl _ _).alloc (Nat.le_refl _) _)) hk1 B (Nat.le_refl _)) (show 6 ≤ 9 by decide)
        go_wp2_with fail
        refine (mmask_any n h2 _).mono ?_
        rintro e w' ⟨rfl, rfl⟩
        go_wp2_with fail
        exact bodyPost_ret (v := .agg #[.int .i64 n, .int .u64 (U (⟨V.v, msk n⟩ : Vx).v), .int .u64 (U (⟨V.v, msk n⟩ : Vx).x)]) (by simp [results, Tryz.results21, go_sem, gc, gz, qc]) rfl ⟨(⟨V.v, msk n⟩ : Vx), ok_mk h1 h2 hV.subv (sub_msk h2), trivial, rfl, adv_of hS A ((Below.refl _ _).alloc (Nat.le_refl _) _) (by (repeat (first | exact Below.refl _ _ | exact Nat.le_refl _ | refine below_drewN ?_ _ | refine Below.drew ?_ | refine Below.alloc ?_ ?_ _ | refine Below.setCell ?_ ?_ _ | refine below_step (by assumption) ?_ ?_)) <;> (first | omega | (simp <;> omega))) hl⟩
      · have e0 : ((r2 : Int) == 0) = false := by simpa using c0
        have e1 : ((r2 : Int) == 1) = false := beq_eq_false_iff_ne.2 (by omega)
        have e2 : ((r2 : Int) == 2) = false := beq_eq_false_iff_ne.2 (by omega)
        clear c0 c1 c2
        have B := A2
        obtain ⟨pc, pf, pz⟩ := grown_cell B.gr (p := w1.heap.size) (by simp) (by omega)
        obtain ⟨qc, qf, qz⟩ := grown_cell B.gr (p := w.heap.size) (by first | omega | (simp <;> omega)) (by omega)
        have A := adv_mono (adv_trans (adv_below A1 ((Below.refl _ _).alloc (Nat.le_refl _) _)) hk1 B (Nat.le_refl _)) (show 6 ≤ 9 by decide)
        go_wp2_with fail
        exact bodyPost_ret (v := .agg #[.int .i64 n, .int .u64 (U V.v), .int .u64 (U V.x)]) (by simp [results, Tryz.results21, go_sem, gc, gz, qc]) rfl ⟨V, hV, trivial, rfl, adv_of hS A ((Below.refl _ _).alloc (Nat.le_refl _) _) (by (repeat (first | exact Below.refl _ _ | exact Nat.le_refl _ | refine below_drewN ?_ _ | refine Below.drew ?_ | refine Below.alloc ?_ ?_ _ | refine Below.setCell ?_ ?_ _ | refine below_step (by assumption) ?_ ?_)) <;> (first | omega | (simp <;> omega))) hl⟩
end Go.Proofs.YtodldcdfdjooaaaGreatDoor
