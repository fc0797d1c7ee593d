/- Trees of files: the program's Check, the reference's TreeFault, the law. -/
import Derived.Test.YtpjnjcljaoaceaaSyNfM
import Derived.Test.YtpjnjcljaoaceaaSyFactB
import Derived.RegionTactic
import Derived.Deep.DeepCutAuto
namespace Go.Proofs.Ytpjnjcljaoaceaa
open Go Go.RowKit Go.Sort
set_option linter.unusedVariables false
/-- a tree whose root is of a class -/
def treeE (T : Nd) (c : UInt8) : Int := if 4000 < T.cnt ∨ 60 < T.dep then 3 else chkN T.dep T c
set_option maxRecDepth 100000 in
set_option maxHeartbeats 2000000 in
theorem checkTree_any (T : Nd) (c : UInt8) (hc : T.cnt ≤ 4000000000000) (hu : Nu T) (w : World) (hT : Nin w T) : Calls Try.prog 9 #[T.val, .int .u8 (c.toNat : Int)] w fun e w' => e = .returned (.int .i64 (treeE T c)) ∧ Below w.heap.size w w' := by
  have hM := fun w1 (hb : Below w.heap.size w w1) => measure_any T.dep T (Nat.le_refl _) hc w1 (hT.keep hb)
  have hN := fun (h : T.cnt ≤ 1000000) w1 (hb : Below w.heap.size w w1) => node_all T.dep T (Nat.le_refl _) h hu c w1 (hT.keep hb)
  obtain ⟨R, hR⟩ : ∃ R, treeE T c = R := ⟨_, rfl⟩
  rw [hR]
  have h1 : 4000 < T.cnt → R = 3 := fun h => by rw [← hR, treeE, if_pos (.inl h)]
  have h2 : 60 < T.dep → R = 3 := fun h => by rw [← hR, treeE, if_pos (.inr h)]
  have h3 : ¬ 4000 < T.cnt → ¬ 60 < T.dep → R = chkN T.dep T c := fun h h' => by rw [← hR, treeE, if_neg (by rintro (x | x); exact h x; exact h' x)]
  clear hR
  generalize chkN T.dep T c = E at *
  generalize T.cnt = C at *
  generalize T.dep = D at *
  obtain ⟨k, l, co, nm, tx, n, v, x, s, a, cap, ks⟩ := T
  simp only [Nd.val] at *
  have HM := Lib.hid hM
  have HN := Lib.hid hN
  have b1 : Below w.heap.size w (w.alloc (.cells #[.int .i64 k, .int .i64 l, .int .i64 co, .string nm, .string tx, .int .i64 n, .int .u64 v, .int .u64 x, .bool s, .slice a ks.length cap] 34)) := (Below.refl _ _).alloc (Nat.le_refl _) _
  have N1 : NB (w.alloc (.cells #[.int .i64 k, .int .i64 l, .int .i64 co, .string nm, .string tx, .int .i64 n, .int .u64 v, .int .u64 x, .bool s, .slice a ks.length cap] 34)) w.heap.size k l co nm tx n v x s a ks.length cap := ⟨by go_simp, by go_simp, by go_simp, by go_simp, by go_simp, by go_simp, by go_simp, by go_simp, by go_simp, by go_simp⟩
  obtain ⟨W1, hW1⟩ : ∃ W, W = (w.alloc (.cells #[.int .i64 k, .int .i64 l, .int .i64 co, .string nm, .string tx, .int .i64 n, .int .u64 v, .int .u64 x, .bool s, .slice a ks.length cap] 34)) := ⟨_, rfl⟩
  rw [← hW1] at b1 N1
  clear hM hN hT hu
  have H1 := Lib.hid h1
  have H2 := Lib.hid h2
  have H3 := Lib.hid h3
  clear h1 h2 h3 hc
  go_enter Try.func9, Try.ntmps9
  go_upto_region 1 with fail
  rw [← hW1]
  clear hW1
  go_cut [5, 6] (fun p q wx => ∃ w3 : World, w3 = wx ∧ p = .int .i64 (C : Int) ∧ q = .int .i64 (D : Int) ∧ RowKit.Below W1.heap.size W1 wx)
  case first =>
    clear HN H1 H2 H3
    obtain ⟨c0, c1, c2, c3, c4, c5, c6, c7, c8, c9⟩ := id N1
    go_wp2_with (refine (HM.out _ b1).mono ?_; rintro e w3 ⟨rfl, hb3⟩)
    go_meet
    exact ⟨_, rfl, rfl, rfl, hb3⟩
  case rest =>
  obtain ⟨w3, hw3, rfl, rfl, hb3⟩ := hcut
  subst hw3
  have N3 := N1.below hb3
  have b3 := b1.trans (hb3.mono b1.size)
  clear N1 b1 hb3 HM
  by_cases hC : 4000 < C
  · have hCi : (4000 : Int) < (C : Int) := by omega
    have HR := Lib.hid (H1.out hC)
    clear H1 H2 H3 HN
    go_wp2_with fail
    go_ret
    exact ⟨by rw [HR.out]; rfl, b3⟩
  · have hCi : ¬ (4000 : Int) < (C : Int) := by omega
    by_cases hD : 60 < D
    · have hDi : (60 : Int) < (D : Int) := by omega
      have HR := Lib.hid (H2.out hD)
      clear H1 H2 H3 HN
      go_wp2_with fail
      go_ret
      exact ⟨by rw [HR.out]; rfl, b3⟩
    · have hDi : ¬ (60 : Int) < (D : Int) := by omega
      have HR := Lib.hid (H3.out hC hD)
      have HN2 := Lib.hid (HN.out (by omega))
      clear H1 H2 H3 HN
      obtain ⟨c0, c1, c2, c3, c4, c5, c6, c7, c8, c9⟩ := id N3
      go_wp2_with (refine (HN2.out _ b3).mono ?_; rintro e w4 ⟨rfl, hb4⟩)
      go_ret
      exact ⟨by rw [HR.out]; rfl, b3.trans (hb4.mono b3.size)⟩
/-- the root of a file -/
def rootN (a : Option Addr) (cap : Nat) (ks : List Nd) : Nd := .mk 1 0 0 ⟨#[]⟩ ⟨#[]⟩ 0 0 0 false a cap ks
theorem root_nu {a : Option Addr} {cap : Nat} {ks : List Nd} (h : ∀ T ∈ ks, Nu T) : Nu (rootN a cap ks) := .mk (by decide) (by decide) (by decide) (by decide) h
set_option maxRecDepth 100000 in
set_option maxHeartbeats 2000000 in
theorem checkFile_any (a : Option Addr) (cap : Nat) (ks : List Nd) (q : Value) (hc : 1 + cntL ks ≤ 4000000000000) (hu : ∀ T ∈ ks, Nu T) (w : World) (hr : Row w a cap ks) (hall : ∀ T ∈ ks, Nin w T) : Calls Try.prog 5 #[.agg #[.slice a ks.length cap, q]] w fun e w' => e = .returned (.int .i64 (treeE (rootN a cap ks) 70)) ∧ Below w.heap.size w w' := by
  have hT : Nin w (rootN a cap ks) := .mk hr hall
  have hC := fun w1 (hb : Below w.heap.size w w1) => checkTree_any (rootN a cap ks) 70 (by unfold rootN Nd.cnt; exact hc) (root_nu hu) w1 (hT.keep hb)
  generalize treeE (rootN a cap ks) 70 = E at *
  simp only [rootN, Nd.val] at hC
  rw [show ((UInt8.toNat 70 : Nat) : Int) = 70 from rfl] at hC
  have HC := Lib.hid hC
  clear hC hT hr hall hu hc
  go_enter Try.func5, Try.ntmps5
  go_wp2_with (go_at_call 9; refine (HC.out _ ((Below.refl _ _).alloc (Nat.le_refl _) _)).mono ?_; rintro e w3 ⟨rfl, hb3⟩)
  go_ret
  exact ⟨by first | rfl | simp, ((Below.refl _ _).alloc (Nat.le_refl _) _).trans (hb3.mono (by simp))⟩
set_option maxRecDepth 100000 in
set_option maxHeartbeats 4000000 in
theorem treeFault_any (hF : ∀ d, FaultTo d) (T : Nd) (c : UInt8) (hc45 : c ≠ 45) (hk : T.kind ≠ 0) (hc : T.cnt ≤ 4000000000000) (hu : Nu T) (w : World) (hT : Nin w T) : Calls Try.prog 6 #[T.val, .string (bs [c])] w fun e w' => e = .returned (.int .i64 (treeE T c)) ∧ Below w.heap.size w w' := by
  have hM := fun w1 (hb : Below w.heap.size w w1) => weigh_any T.dep T (Nat.le_refl _) hc w1 (hT.keep hb)
  have hN := fun (h : T.cnt ≤ 1000000) gt ct (hct : 122 ≤ ct) w1 (hb : Below w.heap.size w w1) (hTB : TAB w1 gt) => hF T.dep T (Nat.le_refl _) h hu hk c hc45 gt ct hct w1 hTB (hT.keep hb)
  obtain ⟨R, hR⟩ : ∃ R, treeE T c = R := ⟨_, rfl⟩
  rw [hR]
  have h1 : 4000 < T.cnt → R = 3 := fun h => by rw [← hR, treeE, if_pos (.inl h)]
  have h2 : 60 < T.dep → R = 3 := fun h => by rw [← hR, treeE, if_pos (.inr h)]
  have h3 : ¬ 4000 < T.cnt → ¬ 60 < T.dep → R = chkN T.dep T c := fun h h' => by rw [← hR, treeE, if_neg (by rintro (x | x); exact h x; exact h' x)]
  clear hR
  generalize chkN T.dep T c = E at *
  generalize T.cnt = C at *
  generalize T.dep = D at *
  obtain ⟨k, l, co, nm, tx, n, v, x, s, a, cap, ks⟩ := T
  simp only [Nd.val] at *
  generalize bs [c] = CS at *
  have HM := Lib.hid hM
  have HN := Lib.hid hN
  have b1 : Below w.heap.size w (w.alloc (.cells #[.int .i64 k, .int .i64 l, .int .i64 co, .string nm, .string tx, .int .i64 n, .int .u64 v, .int .u64 x, .bool s, .slice a ks.length cap] 34)) := (Below.refl _ _).alloc (Nat.le_refl _) _
  have N1 : NB (w.alloc (.cells #[.int .i64 k, .int .i64 l, .int .i64 co, .string nm, .string tx, .int .i64 n, .int .u64 v, .int .u64 x, .bool s, .slice a ks.length cap] 34)) w.heap.size k l co nm tx n v x s a ks.length cap := ⟨by go_simp, by go_simp, by go_simp, by go_simp, by go_simp, by go_simp, by go_simp, by go_simp, by go_simp, by go_simp⟩
  obtain ⟨W1, hW1⟩ : ∃ W, W = (w.alloc (.cells #[.int .i64 k, .int .i64 l, .int .i64 co, .string nm, .string tx, .int .i64 n, .int .u64 v, .int .u64 x, .bool s, .slice a ks.length cap] 34)) := ⟨_, rfl⟩
  rw [← hW1] at b1 N1
  clear hM hN hT hu hk hc45 hF
  have H1 := Lib.hid h1
  have H2 := Lib.hid h2
  have H3 := Lib.hid h3
  clear h1 h2 h3 hc
  go_enter Try.func6, Try.ntmps6
  go_upto_region 1 with fail
  rw [← hW1]
  clear hW1
  go_cut [5, 6] (fun p q wx => ∃ w3 : World, w3 = wx ∧ p = .int .i64 (C : Int) ∧ q = .int .i64 (D : Int) ∧ RowKit.Below W1.heap.size W1 wx)
  case first =>
    clear HN H1 H2 H3
    obtain ⟨c0, c1, c2, c3, c4, c5, c6, c7, c8, c9⟩ := id N1
    go_wp2_with (refine (HM.out _ b1).mono ?_; rintro e w3 ⟨rfl, hb3⟩)
    go_meet
    exact ⟨_, rfl, rfl, rfl, hb3⟩
  case rest =>
  obtain ⟨w3, hw3, rfl, rfl, hb3⟩ := hcut
  subst hw3
  have N3 := N1.below hb3
  have b3 := b1.trans (hb3.mono b1.size)
  clear N1 b1 hb3 HM
  by_cases hC : 4000 < C
  · have hCi : (4000 : Int) < (C : Int) := by omega
    have HR := Lib.hid (H1.out hC)
    clear H1 H2 H3 HN
    go_wp2_with fail
    go_ret
    exact ⟨by rw [HR.out]; rfl, b3⟩
  · have hCi : ¬ (4000 : Int) < (C : Int) := by omega
    by_cases hD : 60 < D
    · have hDi : (60 : Int) < (D : Int) := by omega
      have HR := Lib.hid (H2.out hD)
      clear H1 H2 H3 HN
      go_wp2_with fail
      go_ret
      exact ⟨by rw [HR.out]; rfl, b3⟩
    · have hDi : ¬ (60 : Int) < (D : Int) := by omega
      have HR := Lib.hid (H3.out hC hD)
      have HN2 := Lib.hid (HN.out (by omega))
      have HF := Lib.hid forms_any
      clear H1 H2 H3 HN
      obtain ⟨c0, c1, c2, c3, c4, c5, c6, c7, c8, c9⟩ := id N3
      go_upto_region 4 with fail
      go_cut [4] (fun sv wx => sv = .int .i64 E ∧ RowKit.Below w.heap.size w wx)
      case first =>
        go_region_with (first
          | (refine (HF.out _).mono ?_; rintro e w4 ⟨vF, rfl, hOF, hb4⟩; obtain ⟨gt, ct, hvF, hct, hTB⟩ := tab_of hOF; subst hvF; clear hOF; have b4 : RowKit.Below w.heap.size w w4 := b3.trans (Below.mono (by first | exact hb4 | exact ((Below.refl _ _).drew).trans hb4) b3.size); have HCT := Lib.hid hct; have HTB := Lib.hid hTB; clear hct hTB; obtain ⟨d0, d1, d2, d3, d4, d5, d6, d7, d8, d9⟩ := N3.below (by first | exact hb4 | exact ((Below.refl _ _).drew).trans hb4))
          | (refine (HN2.out _ _ HCT.out _ b4 HTB.out).mono ?_; rintro e w5 ⟨rfl, hb5⟩))
        all_goals (go_wp2_with fail; go_meet; exact ⟨rfl, b4.trans (hb5.mono b4.size)⟩)
      case rest =>
      obtain ⟨rfl, hb9⟩ := hcut
      go_wp2_with fail
      go_ret
      exact ⟨by rw [HR.out]; rfl, hb9⟩
set_option maxRecDepth 100000 in
set_option maxHeartbeats 4000000 in
theorem files_any (hF : ∀ d, FaultTo d) (a : Option Addr) (cap : Nat) (ks : List Nd) (q : Value) (hc : 1 + cntL ks ≤ 4000000000000) (hu : ∀ T ∈ ks, Nu T) (w : World) (hr : Row w a cap ks) (hall : ∀ T ∈ ks, Nin w T) : Calls Try.prog 3 #[.agg #[.slice a ks.length cap, q]] w fun e w' => e = .returned (.bool true) ∧ Below w.heap.size w w' := by
  have hC := fun w1 (hb : Below w.heap.size w w1) => checkFile_any a cap ks q hc hu w1 (hr.below hb) (fun T h => (hall T h).keep hb)
  have hT : Nin w (rootN a cap ks) := .mk hr hall
  have hG := fun w1 (hb : Below w.heap.size w w1) => treeFault_any hF (rootN a cap ks) 70 (by decide) (by show (1 : Int) ≠ 0; decide) (by unfold rootN Nd.cnt; exact hc) (root_nu hu) w1 (hT.keep hb)
  generalize treeE (rootN a cap ks) 70 = E at *
  simp only [rootN, Nd.val] at hG
  rw [show bs [70] = ⟨#[70]⟩ from rfl] at hG
  have HC := Lib.hid hC
  have HG := Lib.hid hG
  clear hC hG hT hr hall hu hc hF
  obtain ⟨W1, hW1⟩ : ∃ W, W = w.alloc (.cells #[.slice a ks.length cap, q] 25) := ⟨_, rfl⟩
  have b1 : Below w.heap.size w W1 := by rw [hW1]; exact (Below.refl _ _).alloc (Nat.le_refl _) _
  have x0 : W1.cell? ⟨w.heap.size, 0, none⟩ = some (.slice a ks.length cap) := by rw [hW1]; go_simp
  have x1 : W1.cell? ⟨w.heap.size, 1, none⟩ = some q := by rw [hW1]; go_simp
  go_enter Try.func3, Try.ntmps3
  go_upto_region 1 with fail
  rw [← hW1]
  clear hW1
  have cT : ∀ dd os, Calls Try.prog 4 #[] (grow (redrawn W1 dd) os) fun e w'' => e = .returned (.bool true) ∧ ∃ p : Regrown, w'' = grow (redrawn W1 p.d) p.os := fun dd os => Calls.regrown_of (treed_ok _)
  have cC : ∀ dd os, Calls Try.prog 5 #[_] (grow (redrawn W1 dd) os) fun e w'' => e = .returned (.int .i64 E) ∧ ∃ p : Regrown, w'' = grow (redrawn W1 p.d) p.os := fun dd os => Calls.regrown_of (HC.out _ (b1.trans ((below_regrown W1 dd os).mono b1.size)))
  have cG : ∀ dd os, Calls Try.prog 6 #[_, _] (grow (redrawn W1 dd) os) fun e w'' => e = .returned (.int .i64 E) ∧ ∃ p : Regrown, w'' = grow (redrawn W1 p.d) p.os := fun dd os => Calls.regrown_of (HG.out _ (b1.trans ((below_regrown W1 dd os).mono b1.size)))
  have G0 := cell_regrown x0
  have G1 := cell_regrown x1
  refine wp_region_quiet_below (by kernel_rfl) (by kernel_rfl) ?_
  repeat (quiet_step (first | (with_reducible exact cT _ _) | (with_reducible exact cC _ _) | (with_reducible exact cG _ _)))
  refine wpQuiet_nil ?_
  intro _ hw'
  obtain ⟨⟨dq, osq⟩, hw''⟩ := hw'
  subst hw''
  have bq := below_regrown W1 dq osq
  generalize grow (redrawn W1 dq) osq = W10 at bq ⊢
  go_wp2_with fail
  go_ret
  exact ⟨by first | rfl | simp, b1.trans (bq.mono b1.size)⟩
end Go.Proofs.Ytpjnjcljaoaceaa
