/- The law on single calls: its walk. Asked: what is said here of Eval, Lanes, Lane and Init, and the fact. -/
import Derived.Test.YtbphhcjepeamcaaGlEd
namespace Go.Proofs.Ytbphhcjepeamcaa
open Go Go.RowKit Go.Sort
set_option linter.unusedVariables false
theorem lane_lanes (l : List Bool) : (lanesL l).map (colB 0) = l := by
  unfold lanesL
  rw [List.map_map]
  conv => rhs; rw [← List.map_id l]
  apply List.map_congr_left
  intro b _
  cases b <;> simp [colB]
theorem lanes_in (l : List Bool) : ∀ n ∈ lanesL l, n = 0 ∨ n = 1 := by
  intro n hn
  unfold lanesL at hn
  obtain ⟨b, _, rfl⟩ := List.mem_map.1 hn
  cases b
  · exact .inl rfl
  · exact .inr rfl
set_option maxRecDepth 100000 in
set_option maxHeartbeats 4000000 in
theorem widths_any (g : Gr) (v : Value) (n m : Int) (sg : Small g) (w : World) (hG : GO g v w) : Calls Try.prog 36 #[v, .int .i64 n, .int .i64 m] w fun e w' => e = .returned (.int .i64 (widE g n m)) ∧ Below w.heap.size w w' := by
  have hG0 := hG
  obtain ⟨a, b, c, d0, e, a', b', c', d', e', rfl, hC, hA⟩ := hG.all
  clear hG
  go_enter Try.func36, Try.ntmps36
  go_upto_region 1 with fail
  have bel := (Below.refl w.heap.size w).alloc (Nat.le_refl _) (.cells #[.slice a g.ins.length a', .slice b g.outN.length b', .slice c g.regs.length c', .slice d0 g.ands.length d', .slice e g.outs.length e'] 28)
  have X := GX.new w (.slice a g.ins.length a') (.slice b g.outN.length b') (.slice c g.regs.length c') (.slice d0 g.ands.length d') (.slice e g.outs.length e') 28
  generalize w.alloc (.cells #[.slice a g.ins.length a', .slice b g.outN.length b', .slice c g.regs.length c', .slice d0 g.ands.length d', .slice e g.outs.length e'] 28) = W0 at bel X ⊢
  generalize hk : w.heap.size = k at X ⊢
  have HK := Lib.hid hk
  clear hk
  obtain ⟨x0, x1, x2, x3, x4⟩ := id X
  have H1 := Lib.hid (fault_any g _ sg W0 (hG0.below bel))
  go_upto_region 2 with (first | (go_at_call 30; refine H1.out.mono ?_; rintro ee W1 ⟨rfl, hb1⟩; replace bel := bel.trans (hb1.mono bel.size); replace X := X.below hb1; clear hb1 H1 x0 x1 x2 x3 x4; obtain ⟨x0, x1, x2, x3, x4⟩ := id X))
  clear hG0 hC hA
  by_cases hf : faultG g = 0
  rotate_left
  · have he := Lib.hid (show widE g n m = faultG g from if_neg hf)
    generalize faultG g = f at hf he ⊢
    have hfb : (f == 0) = false := beq_eq_false_iff_ne.2 hf
    have hfc : (f != 0) = true := by simp [bne, hfb]
    go_wp2_with fail
    go_ret
    exact ⟨ret_num he.out.symm, bel⟩
  · have he : widE g n m = if n = (g.ins.length : Int) ∧ m = (g.regs.length : Int) then 0 else 20 := if_pos hf
    rw [hf]
    clear hf
    by_cases h1 : n = (g.ins.length : Int)
    · by_cases h2 : m = (g.regs.length : Int)
      · have HR := Lib.hid (he.trans (if_pos ⟨h1, h2⟩))
        clear he
        rw [h1, h2]
        clear h1 h2
        go_wp2_with fail
        go_ret
        exact ⟨ret_num HR.out.symm, bel⟩
      · have HR := Lib.hid (he.trans (if_neg (fun h => h2 h.2)))
        clear he
        rw [h1]
        clear h1
        have hb : (m == (g.regs.length : Int)) = false := beq_eq_false_iff_ne.2 h2
        have hc : (m != (g.regs.length : Int)) = true := by simp [bne, hb]
        go_wp2_with fail
        go_ret
        exact ⟨ret_num HR.out.symm, bel⟩
    · have HR := Lib.hid (he.trans (if_neg (fun h => h1 h.1)))
      clear he
      have hb : (n == (g.ins.length : Int)) = false := beq_eq_false_iff_ne.2 h1
      have hc : (n != (g.ins.length : Int)) = true := by simp [bne, hb]
      go_wp2_with fail
      go_ret
      exact ⟨ret_num HR.out.symm, bel⟩
set_option maxRecDepth 100000 in
set_option maxHeartbeats 8000000 in
theorem evals_law (hF : FactC) (hE : EvalC) (hL : LanesC) (hM : LaneC) (hI : InitC) (g : Gr) (v : Value) (ins st : List Bool) (vi vs : Value) (sg : Small g) (hn : ins.length ≤ 4000000000) (hm : st.length ≤ 4000000000) (w : World) (hG : GO g v w) (h1 : RowC (fun b => Value.bool b) ins vi w) (h2 : RowC (fun b => Value.bool b) st vs w) : Calls Try.prog 7 #[v, vi, vs] w fun e w' => e = .returned (.bool true) ∧ Below w.heap.size w w' := by
  have hG0 := hG
  obtain ⟨a, b, c, d0, e, a', b', c', d', e', rfl, hC, hA⟩ := hG.all
  clear hG
  have HF := Lib.hid (fun W => hF W)
  clear hF
  have HI := Lib.hid (fun W (hb : Below w.heap.size w W) => h1.below hb)
  have HS := Lib.hid (fun W (hb : Below w.heap.size w W) => h2.below hb)
  obtain ⟨ai, ci, rfl, hi1, hi2, hi3⟩ := h1
  obtain ⟨az, cz, rfl, hs1, hs2, hs3⟩ := h2
  go_enter Try.func7, Try.ntmps7
  go_upto_region 1 with fail
  have bel := (Below.refl w.heap.size w).alloc (Nat.le_refl _) (.cells #[.slice a g.ins.length a', .slice b g.outN.length b', .slice c g.regs.length c', .slice d0 g.ands.length d', .slice e g.outs.length e'] 28)
  have X := GX.new w (.slice a g.ins.length a') (.slice b g.outN.length b') (.slice c g.regs.length c') (.slice d0 g.ands.length d') (.slice e g.outs.length e') 28
  generalize w.alloc (.cells #[.slice a g.ins.length a', .slice b g.outN.length b', .slice c g.regs.length c', .slice d0 g.ands.length d', .slice e g.outs.length e'] 28) = W0 at bel X ⊢
  generalize hk : w.heap.size = k at X ⊢
  have HK := Lib.hid hk
  clear hk
  obtain ⟨x0, x1, x2, x3, x4⟩ := id X
  have H1 := Lib.hid (hE g _ ins st _ _ W0 sg hn hm (hG0.below bel) (HI.out _ bel) (HS.out _ bel))
  go_upto_region 2 with (first | (go_at_call 42; refine H1.out.mono ?_; rintro ee W1 ⟨vo, vn, rfl, R1, R2, hb1⟩; replace bel := bel.trans (hb1.mono bel.size); replace X := X.below hb1; clear hb1 H1 x0 x1 x2 x3 x4; obtain ⟨x0, x1, x2, x3, x4⟩ := id X))
  have H1 := Lib.hid (hL ins _ W1 hn (HI.out _ bel))
  go_upto_region 3 with (first | (go_at_call 43; refine H1.out.mono ?_; rintro ee W2 ⟨vl, rfl, R3, hb1⟩; obtain ⟨al, cl, rfl, hcl, R3⟩ := R3.open'; replace bel := bel.trans (hb1.mono bel.size); replace X := X.below hb1; replace R1 := R1.below hb1; replace R2 := R2.below hb1; clear hb1 H1 x0 x1 x2 x3 x4; obtain ⟨x0, x1, x2, x3, x4⟩ := id X))
  have hln0 : (lanesL ins).length = ins.length := by unfold lanesL; simp
  rw [hln0] at hcl ⊢
  have HRL := Lib.hid (fun W (hb : Below W2.heap.size W2 W) => (⟨al, cl, by rw [hln0], by rw [hln0]; exact hcl, R3.below hb⟩ : RowOf 1 encU (lanesL ins) (.slice al ins.length cl) W))
  have HLD := Lib.hid hln0
  clear hln0
  have HLN := Lib.hid (lanes_in ins)
  have HLL := Lib.hid (lane_lanes ins)
  have HBL : (beginL g).length ≤ 4000000000 := by unfold beginL; simp; exact sg.regs
  have H3 := Lib.hid (fun W (hb : Below w.heap.size w W) => hI g _ W sg (hG0.below hb))
  have H4 := Lib.hid (fun W (hb : Below w.heap.size w W) => ((begin_any g _ sg.ins sg.outs sg.regs W (hG0.below hb)).mono fun ee w' ⟨u, q1, q2, q3⟩ => ⟨u, q1, q2.row, q3⟩ : Calls Try.prog 45 _ W fun e w' => ∃ u, e = .returned u ∧ RowOf 1 encB (beginL g) u w' ∧ Below W.heap.size W w'))
  have H5 := Lib.hid (fun v1 v2 W q1 q2 => by have := equalB_any (beginL g) (beginL g) v1 v2 HBL HBL W q1 q2; rwa [decide_eq_true (rfl : beginL g = beginL g)] at this)
  have H6 := Lib.hid (fun W (hb : Below W2.heap.size W2 W) => (by have := hM (lanesL ins) (.slice al ins.length cl) W (by rw [HLD.out]; exact hn) (fun n hn => by rcases lanes_in ins n hn with rfl | rfl <;> omega) (HRL.out W hb); rwa [lane_lanes] at this : Calls Try.prog 46 #[.slice al ins.length cl] W fun e w' => ∃ vo, e = .returned vo ∧ RowOf 1 encB ins vo w' ∧ Below W.heap.size W w'))
  generalize lanesL ins = LN at R3 HLN HLL HLD HRL H6
  have H7 := Lib.hid (fun v1 W q1 (hb : Below w.heap.size w W) => by have := equalB_any ins ins v1 _ hn hn W q1 (HI.out W hb).row; rwa [decide_eq_true (rfl : ins = ins)] at this)
  clear hL hM hI
  generalize beginL g = B at H3 H4 H5
  clear HBL
  have HK3 := Lib.hid (fun d os => R1.below (below_regrown W2 d os))
  have HK4 := Lib.hid (fun d os => R2.below (below_regrown W2 d os))
  have HK5 := Lib.hid (fun d os => X.below (below_regrown W2 d os))
  have HK6 := Lib.hid (fun d os => R3.below (below_regrown W2 d os))
  have HB2 := Lib.hid (fun d os => below_regrown W2 d os)
  have HB := Lib.hid (fun d os => bel.trans ((below_regrown W2 d os).mono bel.size))
  have g0 := cell_regrown x0
  have g1 := cell_regrown x1
  have g2 := cell_regrown x2
  have g3 := cell_regrown x3
  have g4 := cell_regrown x4
  clear x0 x1 x2 x3 x4
  refine wp_region_rel 24 (by kernel_rfl) (by kernel_rfl) ?_
  simp only [List.take_succ_cons, List.take_zero, List.drop_succ_cons, List.drop_zero]
  (refine rel_fix0 (fun K hK => ?_); go_simp; apply Exists.intro; refine ⟨fun _ _ => ?_, hK _ ?_⟩; (with_reducible exact ret_fix (HF.out _)); clear hK K)
  (refine rel_fix0 (fun K hK => ?_); go_simp; refine hK _ ?_; clear hK K)
  (refine rel_fix0 (fun K hK => ?_); go_simp; refine hK _ ?_; clear hK K)
  (refine rel_fix0 (fun K hK => ?_); go_simp; refine hK _ ?_; clear hK K)
  refine rel_fact [] (RowOf 1 encB B) 30 rfl (by simp [Act.put]) (row_sta _ _ _) (by rfl) (by kernel_rfl) (by kernel_rfl) ?_ ?_
  · intro d os
    simp only [relAll]
    go_simp
    exact ret_fact (H3.out _ (HB.out _ _))
  (refine rel_fix (by kernel_rfl) (by kernel_rfl) (fun K hK => ?_); go_simp; refine hK _ ?_; clear hK K)
  refine rel_fact [] (RowOf 1 encB B) 32 rfl (by simp [Act.put]) (row_sta _ _ _) (by rfl) (by kernel_rfl) (by kernel_rfl) ?_ ?_
  · intro d os
    simp only [relAll]
    go_simp
    exact ret_fact (H4.out _ (HB.out _ _))
  refine rel_use [(32, _), (30, _)] (.bool true) (by rfl) (by kernel_rfl) (by kernel_rfl) ?_ ?_
  · intro d os
    simp only [relAll]
    rintro u2 r2 u1 r1
    go_simp
    exact ret_fix (H5.out _ _ _ r1 r2)
  (refine rel_fix (by kernel_rfl) (by kernel_rfl) (fun K hK => ?_); go_simp; refine hK _ ?_; clear hK K)
  (refine rel_fix (by kernel_rfl) (by kernel_rfl) (fun K hK => ?_); go_simp; refine hK _ ?_; clear hK K)
  (refine rel_fix (by kernel_rfl) (by kernel_rfl) (fun K hK => ?_); go_simp; refine hK _ ?_; clear hK K)
  (refine rel_fix (by kernel_rfl) (by kernel_rfl) (fun K hK => ?_); go_simp; refine hK _ ?_; clear hK K)
  (refine rel_fix (by kernel_rfl) (by kernel_rfl) (fun K hK => ?_); go_simp; refine hK _ ?_; clear hK K)
  (refine rel_fix (by kernel_rfl) (by kernel_rfl) (fun K hK => ?_); go_simp; refine hK _ ?_; clear hK K)
  (refine rel_fix (by kernel_rfl) (by kernel_rfl) (fun K hK => ?_); go_simp; refine hK _ ?_; clear hK K)
  (refine rel_fix (by kernel_rfl) (by kernel_rfl) (fun K hK => ?_); go_simp; refine hK _ ?_; clear hK K)
  (refine rel_fix (by kernel_rfl) (by kernel_rfl) (fun K hK => ?_); go_simp; refine hK _ ?_; clear hK K)
  (refine rel_fix (by kernel_rfl) (by kernel_rfl) (fun K hK => ?_); go_simp; refine hK _ ?_; clear hK K)
  (refine rel_fix (by kernel_rfl) (by kernel_rfl) (fun K hK => ?_); go_simp; refine hK _ ?_; clear hK K)
  refine rel_fact [] (RowOf 1 encB ins) 45 rfl (by simp [Act.put]) (row_sta _ _ _) (by rfl) (by kernel_rfl) (by kernel_rfl) ?_ ?_
  · intro d os
    simp only [relAll]
    go_simp
    exact ret_fact (H6.out _ (HB2.out _ _))
  (refine rel_fix (by kernel_rfl) (by kernel_rfl) (fun K hK => ?_); go_simp; refine hK _ ?_; clear hK K)
  refine rel_use [(45, _)] (.bool true) (by rfl) (by kernel_rfl) (by kernel_rfl) ?_ ?_
  · intro d os
    simp only [relAll]
    rintro u1 r1
    go_simp
    exact ret_fix (H7.out _ _ r1 (HB.out _ _))
  (refine rel_fix (by kernel_rfl) (by kernel_rfl) (fun K hK => ?_); go_simp; refine hK _ ?_; clear hK K)
  (refine rel_fix (by kernel_rfl) (by kernel_rfl) (fun K hK => ?_); go_simp; refine hK _ ?_; clear hK K)
  refine rel_nil ?_
  intro d os
  simp only [relAll]
  rintro v45 - v32 - v30 -
  replace bel := HB.out d os
  clear g0 g1 g2 g3 g4
  clear HB
  replace R1 := HK3.out d os
  replace R2 := HK4.out d os
  replace X := HK5.out d os
  replace R3 := HK6.out d os
  clear HK3 HK4 HK5 HK6 HB2 H3 H4 H5 H6 H7
  generalize grow (redrawn _ d) os = WZ at bel R1 R2 R3 X ⊢
  clear HRL HLL
  have hB0 := Lib.hid bel
  go_upto_block 0 with fail
  go_wp2_with fail
  go_loopw [52] (fun i wr => ∃ j : Nat, j ≤ ins.length ∧ i = .int .i64 (j : Int) ∧ wr = WZ) (fun i _ => ins.length - (intOf i).toNat)
  case atStart => exact ⟨0, Nat.zero_le _, rfl, rfl⟩
  case round =>
    obtain ⟨j, hj, rfl, rfl⟩ := hrel
    have hj0 : (0 : Int) ≤ (j : Int) := by omega
    by_cases hlt : j < ins.length
    · have hji : (j : Int) < (ins.length : Int) := by omega
      have hlt' : j < LN.length := by have := HLD.out; omega
      obtain ⟨bb, oo, rfl, hcell⟩ := R3.pick (by omega)
      have c0 := hcell j hlt' 0 _ rfl
      simp only [Nat.mul_one, Nat.add_zero] at c0
      clear hcell
      have h01 := HLN.out _ (mem1 LN hlt')
      generalize LN[j]! = n at c0 h01
      clear R1 R2 R3
      rcases h01 with rfl | rfl
      · go_wp2_with fail
        go_roundw
        case rel => exact ⟨j + 1, by omega, by go_num, by first | rfl | trivial⟩
        case measure => first | done | (simp [intOf]; done) | (simp [intOf]; omega)
      · go_wp2_with fail
        go_roundw
        case rel => exact ⟨j + 1, by omega, by go_num, by first | rfl | trivial⟩
        case measure => first | done | (simp [intOf]; done) | (simp [intOf]; omega)
    · have hji : ¬ (j : Int) < (ins.length : Int) := by omega
      clear R3 HLN HLD
      obtain ⟨x0, x1, x2, x3, x4⟩ := id X
      rename World => W3
      have H1 := Lib.hid (widths_any g _ ins.length st.length sg W3 (hG0.below bel))
      go_upto_region 12 with (first | (go_at_call 36; refine H1.out.mono ?_; rintro ee W4 ⟨rfl, hb1⟩; replace bel := bel.trans (hb1.mono bel.size); replace X := X.below hb1; replace R1 := R1.below hb1; replace R2 := R2.below hb1; clear hb1 H1 x0 x1 x2 x3 x4; obtain ⟨x0, x1, x2, x3, x4⟩ := id X))
      by_cases hw : widE g ins.length st.length = 0
      rotate_left
      · have q1 : evO g ins st = [] := if_neg hw
        have q2 : evN g ins st = [] := if_neg hw
        rw [q1] at R1
        rw [q2] at R2
        obtain ⟨ad, cp, rfl, hcp, R1⟩ := R1.open'
        obtain ⟨ad2, cp2, rfl, hcp2, R2⟩ := R2.open'
        clear q1 q2 hG0 hC hA R1 R2
        generalize widE g ins.length st.length = f at hw ⊢
        have hfb : (f == 0) = false := beq_eq_false_iff_ne.2 hw
        have hfc : (f != 0) = true := by simp [bne, hfb]
        go_wp2_with fail
        go_ret
        exact ⟨rfl, bel⟩
      · have q1 : evO g ins st = shows g ins st := if_pos hw
        have q2 : evN g ins st = nexts g ins st := if_pos hw
        rw [q1] at R1
        rw [q2] at R2
        have hf : faultG g = 0 := by
          unfold widE at hw
          by_cases hf : faultG g = 0
          · exact hf
          · rw [if_neg hf] at hw; exact absurd hw hf
        have hw2 : ins.length = g.ins.length ∧ st.length = g.regs.length := by
          unfold widE at hw
          rw [if_pos hf] at hw
          split at hw
          · rename_i q; exact ⟨by omega, by omega⟩
          · omega
        have vg := vg_of hf
        have n4 : g.outs.length ≤ 128 := by have := vg.same; have := vg.outN; omega
        have n5 := vg.regs
        rw [hw]
        have HP := Lib.hid (cycle_any g _ _ _ ins st vg hw2.1 hw2.2 (by omega) W4 (hG0.below bel) (HI.out W4 bel) (HS.out W4 bel))
        have s1 : (shows g ins st).length ≤ 4000000000 := by unfold shows; simp; omega
        have s2 : (nexts g ins st).length ≤ 4000000000 := by unfold nexts; simp; omega
        have HQ1 := Lib.hid (fun v1 v2 W q1 q2 => by have := equalB_any (shows g ins st) (shows g ins st) v1 v2 s1 s1 W q1 q2; rwa [decide_eq_true (rfl : shows g ins st = shows g ins st)] at this)
        have HQ2 := Lib.hid (fun v1 v2 W q1 q2 => by have := equalB_any (nexts g ins st) (nexts g ins st) v1 v2 s2 s2 W q1 q2; rwa [decide_eq_true (rfl : nexts g ins st = nexts g ins st)] at this)
        clear q1 q2 hf hw hw2 hG0 hC hA s1 s2 n4 n5 vg sg
        generalize shows g ins st = L1 at *
        generalize nexts g ins st = L2 at *
        go_wp2_with (first | (go_at_call 38; refine HP.out.mono ?_; rintro ee W5 ⟨vp, vq, rfl, ⟨B1, O1⟩, ⟨B2, O2⟩, hb1⟩; replace bel := bel.trans (hb1.mono bel.size); replace R1 := R1.below hb1; replace R2 := R2.below hb1; clear hb1 HP x0 x1 x2 x3 x4) | (go_at_call 41; first | (refine (HQ1.out _ _ _ R1 O1.row).mono ?_; rintro ee W6 ⟨rfl, hb2⟩; replace bel := bel.trans (hb2.mono bel.size); replace R2 := R2.below hb2; replace O2 := O2.below hb2; clear R1 O1 HQ1 hb2) | (refine (HQ2.out _ _ _ R2 O2.row).mono ?_; rintro ee W7 ⟨rfl, hb3⟩; replace bel := bel.trans (hb3.mono bel.size))))
        go_ret
        exact ⟨rfl, bel⟩
end Go.Proofs.Ytbphhcjepeamcaa
