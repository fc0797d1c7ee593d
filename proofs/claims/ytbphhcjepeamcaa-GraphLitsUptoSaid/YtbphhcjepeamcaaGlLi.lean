/- The law on literals: its walk. Asked: what is said here of Make, Node, Inverted, Not, First, Nodes and Roots, and the fact. -/
import Derived.Test.YtbphhcjepeamcaaGlLd
namespace Go.Proofs.Ytbphhcjepeamcaa
open Go Go.RowKit Go.Sort
set_option linter.unusedVariables false
theorem equalI_big (l : List Int) (v1 v2 : Value) (h1n : l.length ≤ 4000000000) (w : World) (h1 : RowOf 1 encI l v1 w) (h2 : RowOf 1 encI l v2 w) : Calls Try.prog 22 #[v1, v2] w fun e w' => e = .returned (.bool true) ∧ Below w.heap.size w w' := by
  have := equalI_any l l v1 v2 (by omega) (by omega) w h1 h2
  rwa [decide_eq_true (rfl : l = l)] at this
set_option maxRecDepth 100000 in
set_option maxHeartbeats 8000000 in
theorem lits_law (hF : FactC) (h1 : MakeC) (h2 : NodeC) (h3 : InvC) (h4 : NotC) (h5 : FirstC) (h6 : NodesC) (h7 : RootsC) (n : Int) (p : Bool) (l : Int) (g : Gr) (v : Value) (hn : I64 n) (hl : I64 l) (sg : Small g) (hor : g.outs.length + g.regs.length ≤ 4000000000) (w : World) (hG : GO g v w) : Calls Try.prog 3 #[.int .i64 n, .bool p, .int .i64 l, v] w fun e w' => e = .returned (.bool true) ∧ Below w.heap.size w w' := by
  have hG0 := hG
  obtain ⟨a, b, c, d0, e, a', b', c', d', e', rfl, hC, hA⟩ := hG.all
  clear hG
  have s1 := sg.ins
  have s2 := sg.outN
  have s3 := sg.regs
  have s4 := sg.ands
  have s5 := sg.outs
  go_enter Try.func3, Try.ntmps3
  go_upto_region 1 with fail
  have bel := (Below.refl w.heap.size w).alloc (Nat.le_refl _) (.cells #[.slice a g.ins.length a', .slice b g.outN.length b', .slice c g.regs.length c', .slice d0 g.ands.length d', .slice e g.outs.length e'] 28)
  have X := GX.new w (.slice a g.ins.length a') (.slice b g.outN.length b') (.slice c g.regs.length c') (.slice d0 g.ands.length d') (.slice e g.outs.length e') 28
  generalize w.alloc (.cells #[.slice a g.ins.length a', .slice b g.outN.length b', .slice c g.regs.length c', .slice d0 g.ands.length d', .slice e g.outs.length e'] 28) = W0 at bel X ⊢
  generalize hk : w.heap.size = k at X ⊢
  have HK := Lib.hid hk
  clear hk
  obtain ⟨x0, x1, x2, x3, x4⟩ := id X
  have H1 := Lib.hid (fun W (hb : Below w.heap.size w W) => hF W)
  have H2 := Lib.hid (fun W (hb : Below w.heap.size w W) => h1 n p W hn)
  have H3 := Lib.hid (fun W (hb : Below w.heap.size w W) => h2 l W hl)
  have H4 := Lib.hid (fun W (hb : Below w.heap.size w W) => h3 l W hl)
  have H5 := Lib.hid (fun W (hb : Below w.heap.size w W) => h4 l W hl)
  have H6 := Lib.hid (fun W (hb : Below w.heap.size w W) => h5 g _ W sg (hG0.below hb))
  have H7 := Lib.hid (fun W (hb : Below w.heap.size w W) => h6 g _ W sg (hG0.below hb))
  have H8 := Lib.hid (fun W (hb : Below w.heap.size w W) => h7 g _ W sg (hG0.below hb))
  have H9 := Lib.hid (fun W (hb : Below w.heap.size w W) => ((goals_any g _ s1 s5 s3 W (hG0.below hb)).mono fun ee w' ⟨u, q1, q2, q3⟩ => ⟨u, q1, q2.row, q3⟩ : Calls Try.prog 24 _ W fun e w' => ∃ u, e = .returned u ∧ RowOf 1 encI (goalsL g) u w' ∧ Below W.heap.size W w'))
  have hgl : (goalsL g).length ≤ 4000000000 := by unfold goalsL; simp; omega
  have HQ := Lib.hid (fun v1 v2 W h1 h2 => equalI_big (goalsL g) v1 v2 hgl W h1 h2)
  have hwr : IntKind.i64.wrap (1 + (g.ins.length : Int) + (g.regs.length : Int) + (g.ands.length : Int)) = 1 + (g.ins.length : Int) + (g.regs.length : Int) + (g.ands.length : Int) := IntWalk.i64_in _ (by omega)
  clear hF h1 h2 h3 h4 h5 h6 h7 hG0 hC hA sg hn hl
  generalize goalsL g = L at H8 H9 HQ
  by_cases q1 : 0 ≤ l
  · have e1 : nodeL l = l / 2 := if_pos q1
    have e2 : invL l = (bits BinOp.and IntKind.i64 l 1 == 1) := by unfold invL; rw [band1_is, decide_eq_true q1, Bool.true_and]
    have e3 : notL l = bits BinOp.xor IntKind.i64 l 1 := if_pos q1
    rw [e1] at H3
    rw [e2] at H4
    rw [e3] at H5
    generalize nodeL l = z1 at e1
    clear e1 e2 e3
    by_cases q2 : 0 ≤ n
    · by_cases q3 : n ≤ 4416
      · have e1 : makeL n p = 2 * n + (if p = true then 1 else 0) := if_pos ⟨q2, q3⟩
        rw [e1] at H2
        clear e1
        cases p
        · simp only [Bool.false_eq_true, if_false, Int.add_zero] at H2
          go_upto_region 10 with fail
          have HB := Lib.hid (fun d os => bel.trans ((below_regrown W0 d os).mono bel.size))
          have g0 := cell_regrown x0
          have g1 := cell_regrown x1
          have g2 := cell_regrown x2
          have g3 := cell_regrown x3
          have g4 := cell_regrown x4
          clear x0 x1 x2 x3 x4
          refine wp_region_rel 48 (by kernel_rfl) (by kernel_rfl) ?_
          simp only [List.take_succ_cons, List.take_zero, List.drop_succ_cons, List.drop_zero]
          (refine rel_fix0 (fun K hK => ?_); go_simp; apply Exists.intro; refine ⟨fun _ _ => ?_, hK _ ?_⟩; (with_reducible exact ret_fix (H1.out _ (HB.out _ _))); clear hK K)
          (refine rel_fix0 (fun K hK => ?_); go_simp; refine hK _ ?_; clear hK K)
          (refine rel_fix0 (fun K hK => ?_); go_simp; refine hK _ ?_; clear hK K)
          (refine rel_fix0 (fun K hK => ?_); go_simp; refine hK _ ?_; clear hK K)
          (refine rel_fix0 (fun K hK => ?_); go_simp; apply Exists.intro; refine ⟨fun _ _ => ?_, hK _ ?_⟩; (with_reducible exact ret_fix (H2.out _ (HB.out _ _))); clear hK K)
          (refine rel_fix0 (fun K hK => ?_); go_simp; refine hK _ ?_; clear hK K)
          (refine rel_fix0 (fun K hK => ?_); go_simp; refine hK _ ?_; clear hK K)
          (refine rel_fix0 (fun K hK => ?_); go_simp; refine hK _ ?_; clear hK K)
          (refine rel_fix0 (fun K hK => ?_); go_simp; refine hK _ ?_; clear hK K)
          (refine rel_fix0 (fun K hK => ?_); go_simp; refine hK _ ?_; clear hK K)
          (refine rel_fix0 (fun K hK => ?_); go_simp; apply Exists.intro; refine ⟨fun _ _ => ?_, hK _ ?_⟩; (with_reducible exact ret_fix (H3.out _ (HB.out _ _))); clear hK K)
          (refine rel_fix0 (fun K hK => ?_); go_simp; refine hK _ ?_; clear hK K)
          (refine rel_fix0 (fun K hK => ?_); go_simp; refine hK _ ?_; clear hK K)
          (refine rel_fix0 (fun K hK => ?_); go_simp; refine hK _ ?_; clear hK K)
          (refine rel_fix0 (fun K hK => ?_); go_simp; refine hK _ ?_; clear hK K)
          (refine rel_fix0 (fun K hK => ?_); go_simp; refine hK _ ?_; clear hK K)
          (refine rel_fix0 (fun K hK => ?_); go_simp; apply Exists.intro; refine ⟨fun _ _ => ?_, hK _ ?_⟩; (with_reducible exact ret_fix (H4.out _ (HB.out _ _))); clear hK K)
          (refine rel_fix0 (fun K hK => ?_); go_simp; refine hK _ ?_; clear hK K)
          (refine rel_fix0 (fun K hK => ?_); go_simp; refine hK _ ?_; clear hK K)
          (refine rel_fix0 (fun K hK => ?_); go_simp; refine hK _ ?_; clear hK K)
          (refine rel_fix0 (fun K hK => ?_); go_simp; refine hK _ ?_; clear hK K)
          (refine rel_fix0 (fun K hK => ?_); go_simp; refine hK _ ?_; clear hK K)
          (refine rel_fix0 (fun K hK => ?_); go_simp; apply Exists.intro; refine ⟨fun _ _ => ?_, hK _ ?_⟩; (with_reducible exact ret_fix (H5.out _ (HB.out _ _))); clear hK K)
          (refine rel_fix0 (fun K hK => ?_); go_simp; refine hK _ ?_; clear hK K)
          (refine rel_fix0 (fun K hK => ?_); go_simp; refine hK _ ?_; clear hK K)
          (refine rel_fix0 (fun K hK => ?_); go_simp; refine hK _ ?_; clear hK K)
          (refine rel_fix0 (fun K hK => ?_); go_simp; refine hK _ ?_; clear hK K)
          (refine rel_fix0 (fun K hK => ?_); go_simp; refine hK _ ?_; clear hK K)
          (refine rel_fix0 (fun K hK => ?_); go_simp; apply Exists.intro; refine ⟨fun _ _ => ?_, hK _ ?_⟩; (with_reducible exact ret_fix (H6.out _ (HB.out _ _))); clear hK K)
          (refine rel_fix0 (fun K hK => ?_); go_simp; refine hK _ ?_; clear hK K)
          (refine rel_fix0 (fun K hK => ?_); go_simp; refine hK _ ?_; clear hK K)
          (refine rel_fix0 (fun K hK => ?_); go_simp; refine hK _ ?_; clear hK K)
          (refine rel_fix0 (fun K hK => ?_); go_simp; refine hK _ ?_; clear hK K)
          (refine rel_fix0 (fun K hK => ?_); go_simp; refine hK _ ?_; clear hK K)
          (refine rel_fix0 (fun K hK => ?_); go_simp; apply Exists.intro; refine ⟨fun _ _ => ?_, hK _ ?_⟩; (with_reducible exact ret_fix (H7.out _ (HB.out _ _))); clear hK K)
          (refine rel_fix0 (fun K hK => ?_); go_simp; refine hK _ ?_; clear hK K)
          (refine rel_fix0 (fun K hK => ?_); go_simp; refine hK _ ?_; clear hK K)
          (refine rel_fix0 (fun K hK => ?_); go_simp; refine hK _ ?_; clear hK K)
          (refine rel_fix0 (fun K hK => ?_); go_simp; refine hK _ ?_; clear hK K)
          (refine rel_fix0 (fun K hK => ?_); go_simp; refine hK _ ?_; clear hK K)
          (refine rel_fix0 (fun K hK => ?_); go_simp; refine hK _ ?_; clear hK K)
          (refine rel_fix0 (fun K hK => ?_); go_simp; refine hK _ ?_; clear hK K)
          (refine rel_fix0 (fun K hK => ?_); go_simp; refine hK _ ?_; clear hK K)
          (refine rel_fix0 (fun K hK => ?_); go_simp; refine hK _ ?_; clear hK K)
          refine rel_fact [] (RowOf 1 encI L) 87 rfl (by simp [Act.put]) (row_sta _ _ _) (by rfl) (by kernel_rfl) (by kernel_rfl) ?_ ?_
          · intro d os
            simp only [relAll]
            go_simp
            exact ret_fact (H8.out _ (HB.out _ _))
          (refine rel_fix (by kernel_rfl) (by kernel_rfl) (fun K hK => ?_); go_simp; refine hK _ ?_; clear hK K)
          refine rel_fact [] (RowOf 1 encI L) 89 rfl (by simp [Act.put]) (row_sta _ _ _) (by rfl) (by kernel_rfl) (by kernel_rfl) ?_ ?_
          · intro d os
            simp only [relAll]
            go_simp
            exact ret_fact (H9.out _ (HB.out _ _))
          refine rel_use [(89, _), (87, _)] (.bool true) (by rfl) (by kernel_rfl) (by kernel_rfl) ?_ ?_
          · intro d os
            simp only [relAll]
            rintro u2 r2 u1 r1
            go_simp
            exact ret_fix (HQ.out _ _ _ r1 r2)
          refine rel_nil ?_
          intro d os
          simp only [relAll]
          rintro v89 - v87 -
          replace bel := HB.out d os
          clear g0 g1 g2 g3 g4
          clear HB
          generalize grow (redrawn _ d) os = WZ at bel ⊢
          go_wp2_with fail
          go_ret
          exact ⟨rfl, bel⟩
        · simp only [if_true] at H2
          go_upto_region 10 with fail
          have HB := Lib.hid (fun d os => bel.trans ((below_regrown W0 d os).mono bel.size))
          have g0 := cell_regrown x0
          have g1 := cell_regrown x1
          have g2 := cell_regrown x2
          have g3 := cell_regrown x3
          have g4 := cell_regrown x4
          clear x0 x1 x2 x3 x4
          refine wp_region_rel 48 (by kernel_rfl) (by kernel_rfl) ?_
          simp only [List.take_succ_cons, List.take_zero, List.drop_succ_cons, List.drop_zero]
          (refine rel_fix0 (fun K hK => ?_); go_simp; apply Exists.intro; refine ⟨fun _ _ => ?_, hK _ ?_⟩; (with_reducible exact ret_fix (H1.out _ (HB.out _ _))); clear hK K)
          (refine rel_fix0 (fun K hK => ?_); go_simp; refine hK _ ?_; clear hK K)
          (refine rel_fix0 (fun K hK => ?_); go_simp; refine hK _ ?_; clear hK K)
          (refine rel_fix0 (fun K hK => ?_); go_simp; refine hK _ ?_; clear hK K)
          (refine rel_fix0 (fun K hK => ?_); go_simp; apply Exists.intro; refine ⟨fun _ _ => ?_, hK _ ?_⟩; (with_reducible exact ret_fix (H2.out _ (HB.out _ _))); clear hK K)
          (refine rel_fix0 (fun K hK => ?_); go_simp; refine hK _ ?_; clear hK K)
          (refine rel_fix0 (fun K hK => ?_); go_simp; refine hK _ ?_; clear hK K)
          (refine rel_fix0 (fun K hK => ?_); go_simp; refine hK _ ?_; clear hK K)
          (refine rel_fix0 (fun K hK => ?_); go_simp; refine hK _ ?_; clear hK K)
          (refine rel_fix0 (fun K hK => ?_); go_simp; refine hK _ ?_; clear hK K)
          (refine rel_fix0 (fun K hK => ?_); go_simp; apply Exists.intro; refine ⟨fun _ _ => ?_, hK _ ?_⟩; (with_reducible exact ret_fix (H3.out _ (HB.out _ _))); clear hK K)
          (refine rel_fix0 (fun K hK => ?_); go_simp; refine hK _ ?_; clear hK K)
          (refine rel_fix0 (fun K hK => ?_); go_simp; refine hK _ ?_; clear hK K)
          (refine rel_fix0 (fun K hK => ?_); go_simp; refine hK _ ?_; clear hK K)
          (refine rel_fix0 (fun K hK => ?_); go_simp; refine hK _ ?_; clear hK K)
          (refine rel_fix0 (fun K hK => ?_); go_simp; refine hK _ ?_; clear hK K)
          (refine rel_fix0 (fun K hK => ?_); go_simp; apply Exists.intro; refine ⟨fun _ _ => ?_, hK _ ?_⟩; (with_reducible exact ret_fix (H4.out _ (HB.out _ _))); clear hK K)
          (refine rel_fix0 (fun K hK => ?_); go_simp; refine hK _ ?_; clear hK K)
          (refine rel_fix0 (fun K hK => ?_); go_simp; refine hK _ ?_; clear hK K)
          (refine rel_fix0 (fun K hK => ?_); go_simp; refine hK _ ?_; clear hK K)
          (refine rel_fix0 (fun K hK => ?_); go_simp; refine hK _ ?_; clear hK K)
          (refine rel_fix0 (fun K hK => ?_); go_simp; refine hK _ ?_; clear hK K)
          (refine rel_fix0 (fun K hK => ?_); go_simp; apply Exists.intro; refine ⟨fun _ _ => ?_, hK _ ?_⟩; (with_reducible exact ret_fix (H5.out _ (HB.out _ _))); clear hK K)
          (refine rel_fix0 (fun K hK => ?_); go_simp; refine hK _ ?_; clear hK K)
          (refine rel_fix0 (fun K hK => ?_); go_simp; refine hK _ ?_; clear hK K)
          (refine rel_fix0 (fun K hK => ?_); go_simp; refine hK _ ?_; clear hK K)
          (refine rel_fix0 (fun K hK => ?_); go_simp; refine hK _ ?_; clear hK K)
          (refine rel_fix0 (fun K hK => ?_); go_simp; refine hK _ ?_; clear hK K)
          (refine rel_fix0 (fun K hK => ?_); go_simp; apply Exists.intro; refine ⟨fun _ _ => ?_, hK _ ?_⟩; (with_reducible exact ret_fix (H6.out _ (HB.out _ _))); clear hK K)
          (refine rel_fix0 (fun K hK => ?_); go_simp; refine hK _ ?_; clear hK K)
          (refine rel_fix0 (fun K hK => ?_); go_simp; refine hK _ ?_; clear hK K)
          (refine rel_fix0 (fun K hK => ?_); go_simp; refine hK _ ?_; clear hK K)
          (refine rel_fix0 (fun K hK => ?_); go_simp; refine hK _ ?_; clear hK K)
          (refine rel_fix0 (fun K hK => ?_); go_simp; refine hK _ ?_; clear hK K)
          (refine rel_fix0 (fun K hK => ?_); go_simp; apply Exists.intro; refine ⟨fun _ _ => ?_, hK _ ?_⟩; (with_reducible exact ret_fix (H7.out _ (HB.out _ _))); clear hK K)
          (refine rel_fix0 (fun K hK => ?_); go_simp; refine hK _ ?_; clear hK K)
          (refine rel_fix0 (fun K hK => ?_); go_simp; refine hK _ ?_; clear hK K)
          (refine rel_fix0 (fun K hK => ?_); go_simp; refine hK _ ?_; clear hK K)
          (refine rel_fix0 (fun K hK => ?_); go_simp; refine hK _ ?_; clear hK K)
          (refine rel_fix0 (fun K hK => ?_); go_simp; refine hK _ ?_; clear hK K)
          (refine rel_fix0 (fun K hK => ?_); go_simp; refine hK _ ?_; clear hK K)
          (refine rel_fix0 (fun K hK => ?_); go_simp; refine hK _ ?_; clear hK K)
          (refine rel_fix0 (fun K hK => ?_); go_simp; refine hK _ ?_; clear hK K)
          (refine rel_fix0 (fun K hK => ?_); go_simp; refine hK _ ?_; clear hK K)
          refine rel_fact [] (RowOf 1 encI L) 87 rfl (by simp [Act.put]) (row_sta _ _ _) (by rfl) (by kernel_rfl) (by kernel_rfl) ?_ ?_
          · intro d os
            simp only [relAll]
            go_simp
            exact ret_fact (H8.out _ (HB.out _ _))
          (refine rel_fix (by kernel_rfl) (by kernel_rfl) (fun K hK => ?_); go_simp; refine hK _ ?_; clear hK K)
          refine rel_fact [] (RowOf 1 encI L) 89 rfl (by simp [Act.put]) (row_sta _ _ _) (by rfl) (by kernel_rfl) (by kernel_rfl) ?_ ?_
          · intro d os
            simp only [relAll]
            go_simp
            exact ret_fact (H9.out _ (HB.out _ _))
          refine rel_use [(89, _), (87, _)] (.bool true) (by rfl) (by kernel_rfl) (by kernel_rfl) ?_ ?_
          · intro d os
            simp only [relAll]
            rintro u2 r2 u1 r1
            go_simp
            exact ret_fix (HQ.out _ _ _ r1 r2)
          refine rel_nil ?_
          intro d os
          simp only [relAll]
          rintro v89 - v87 -
          replace bel := HB.out d os
          clear g0 g1 g2 g3 g4
          clear HB
          generalize grow (redrawn _ d) os = WZ at bel ⊢
          go_wp2_with fail
          go_ret
          exact ⟨rfl, bel⟩
      · have e1 : makeL n p = 0 := if_neg (fun h => q3 h.2)
        rw [e1] at H2
        clear e1
        go_upto_region 10 with fail
        have HB := Lib.hid (fun d os => bel.trans ((below_regrown W0 d os).mono bel.size))
        have g0 := cell_regrown x0
        have g1 := cell_regrown x1
        have g2 := cell_regrown x2
        have g3 := cell_regrown x3
        have g4 := cell_regrown x4
        clear x0 x1 x2 x3 x4
        refine wp_region_rel 48 (by kernel_rfl) (by kernel_rfl) ?_
        simp only [List.take_succ_cons, List.take_zero, List.drop_succ_cons, List.drop_zero]
        (refine rel_fix0 (fun K hK => ?_); go_simp; apply Exists.intro; refine ⟨fun _ _ => ?_, hK _ ?_⟩; (with_reducible exact ret_fix (H1.out _ (HB.out _ _))); clear hK K)
        (refine rel_fix0 (fun K hK => ?_); go_simp; refine hK _ ?_; clear hK K)
        (refine rel_fix0 (fun K hK => ?_); go_simp; refine hK _ ?_; clear hK K)
        (refine rel_fix0 (fun K hK => ?_); go_simp; refine hK _ ?_; clear hK K)
        (refine rel_fix0 (fun K hK => ?_); go_simp; apply Exists.intro; refine ⟨fun _ _ => ?_, hK _ ?_⟩; (with_reducible exact ret_fix (H2.out _ (HB.out _ _))); clear hK K)
        (refine rel_fix0 (fun K hK => ?_); go_simp; refine hK _ ?_; clear hK K)
        (refine rel_fix0 (fun K hK => ?_); go_simp; refine hK _ ?_; clear hK K)
        (refine rel_fix0 (fun K hK => ?_); go_simp; refine hK _ ?_; clear hK K)
        (refine rel_fix0 (fun K hK => ?_); go_simp; refine hK _ ?_; clear hK K)
        (refine rel_fix0 (fun K hK => ?_); go_simp; refine hK _ ?_; clear hK K)
        (refine rel_fix0 (fun K hK => ?_); go_simp; apply Exists.intro; refine ⟨fun _ _ => ?_, hK _ ?_⟩; (with_reducible exact ret_fix (H3.out _ (HB.out _ _))); clear hK K)
        (refine rel_fix0 (fun K hK => ?_); go_simp; refine hK _ ?_; clear hK K)
        (refine rel_fix0 (fun K hK => ?_); go_simp; refine hK _ ?_; clear hK K)
        (refine rel_fix0 (fun K hK => ?_); go_simp; refine hK _ ?_; clear hK K)
        (refine rel_fix0 (fun K hK => ?_); go_simp; refine hK _ ?_; clear hK K)
        (refine rel_fix0 (fun K hK => ?_); go_simp; refine hK _ ?_; clear hK K)
        (refine rel_fix0 (fun K hK => ?_); go_simp; apply Exists.intro; refine ⟨fun _ _ => ?_, hK _ ?_⟩; (with_reducible exact ret_fix (H4.out _ (HB.out _ _))); clear hK K)
        (refine rel_fix0 (fun K hK => ?_); go_simp; refine hK _ ?_; clear hK K)
        (refine rel_fix0 (fun K hK => ?_); go_simp; refine hK _ ?_; clear hK K)
        (refine rel_fix0 (fun K hK => ?_); go_simp; refine hK _ ?_; clear hK K)
        (refine rel_fix0 (fun K hK => ?_); go_simp; refine hK _ ?_; clear hK K)
        (refine rel_fix0 (fun K hK => ?_); go_simp; refine hK _ ?_; clear hK K)
        (refine rel_fix0 (fun K hK => ?_); go_simp; apply Exists.intro; refine ⟨fun _ _ => ?_, hK _ ?_⟩; (with_reducible exact ret_fix (H5.out _ (HB.out _ _))); clear hK K)
        (refine rel_fix0 (fun K hK => ?_); go_simp; refine hK _ ?_; clear hK K)
        (refine rel_fix0 (fun K hK => ?_); go_simp; refine hK _ ?_; clear hK K)
        (refine rel_fix0 (fun K hK => ?_); go_simp; refine hK _ ?_; clear hK K)
        (refine rel_fix0 (fun K hK => ?_); go_simp; refine hK _ ?_; clear hK K)
        (refine rel_fix0 (fun K hK => ?_); go_simp; refine hK _ ?_; clear hK K)
        (refine rel_fix0 (fun K hK => ?_); go_simp; apply Exists.intro; refine ⟨fun _ _ => ?_, hK _ ?_⟩; (with_reducible exact ret_fix (H6.out _ (HB.out _ _))); clear hK K)
        (refine rel_fix0 (fun K hK => ?_); go_simp; refine hK _ ?_; clear hK K)
        (refine rel_fix0 (fun K hK => ?_); go_simp; refine hK _ ?_; clear hK K)
        (refine rel_fix0 (fun K hK => ?_); go_simp; refine hK _ ?_; clear hK K)
        (refine rel_fix0 (fun K hK => ?_); go_simp; refine hK _ ?_; clear hK K)
        (refine rel_fix0 (fun K hK => ?_); go_simp; refine hK _ ?_; clear hK K)
        (refine rel_fix0 (fun K hK => ?_); go_simp; apply Exists.intro; refine ⟨fun _ _ => ?_, hK _ ?_⟩; (with_reducible exact ret_fix (H7.out _ (HB.out _ _))); clear hK K)
        (refine rel_fix0 (fun K hK => ?_); go_simp; refine hK _ ?_; clear hK K)
        (refine rel_fix0 (fun K hK => ?_); go_simp; refine hK _ ?_; clear hK K)
        (refine rel_fix0 (fun K hK => ?_); go_simp; refine hK _ ?_; clear hK K)
        (refine rel_fix0 (fun K hK => ?_); go_simp; refine hK _ ?_; clear hK K)
        (refine rel_fix0 (fun K hK => ?_); go_simp; refine hK _ ?_; clear hK K)
        (refine rel_fix0 (fun K hK => ?_); go_simp; refine hK _ ?_; clear hK K)
        (refine rel_fix0 (fun K hK => ?_); go_simp; refine hK _ ?_; clear hK K)
        (refine rel_fix0 (fun K hK => ?_); go_simp; refine hK _ ?_; clear hK K)
        (refine rel_fix0 (fun K hK => ?_); go_simp; refine hK _ ?_; clear hK K)
        refine rel_fact [] (RowOf 1 encI L) 87 rfl (by simp [Act.put]) (row_sta _ _ _) (by rfl) (by kernel_rfl) (by kernel_rfl) ?_ ?_
        · intro d os
          simp only [relAll]
          go_simp
          exact ret_fact (H8.out _ (HB.out _ _))
        (refine rel_fix (by kernel_rfl) (by kernel_rfl) (fun K hK => ?_); go_simp; refine hK _ ?_; clear hK K)
        refine rel_fact [] (RowOf 1 encI L) 89 rfl (by simp [Act.put]) (row_sta _ _ _) (by rfl) (by kernel_rfl) (by kernel_rfl) ?_ ?_
        · intro d os
          simp only [relAll]
          go_simp
          exact ret_fact (H9.out _ (HB.out _ _))
        refine rel_use [(89, _), (87, _)] (.bool true) (by rfl) (by kernel_rfl) (by kernel_rfl) ?_ ?_
        · intro d os
          simp only [relAll]
          rintro u2 r2 u1 r1
          go_simp
          exact ret_fix (HQ.out _ _ _ r1 r2)
        refine rel_nil ?_
        intro d os
        simp only [relAll]
        rintro v89 - v87 -
        replace bel := HB.out d os
        clear g0 g1 g2 g3 g4
        clear HB
        generalize grow (redrawn _ d) os = WZ at bel ⊢
        go_wp2_with fail
        go_ret
        exact ⟨rfl, bel⟩
    · have e1 : makeL n p = 0 := if_neg (fun h => q2 h.1)
      rw [e1] at H2
      clear e1
      go_upto_region 10 with fail
      have HB := Lib.hid (fun d os => bel.trans ((below_regrown W0 d os).mono bel.size))
      have g0 := cell_regrown x0
      have g1 := cell_regrown x1
      have g2 := cell_regrown x2
      have g3 := cell_regrown x3
      have g4 := cell_regrown x4
      clear x0 x1 x2 x3 x4
      refine wp_region_rel 48 (by kernel_rfl) (by kernel_rfl) ?_
      simp only [List.take_succ_cons, List.take_zero, List.drop_succ_cons, List.drop_zero]
      (refine rel_fix0 (fun K hK => ?_); go_simp; apply Exists.intro; refine ⟨fun _ _ => ?_, hK _ ?_⟩; (with_reducible exact ret_fix (H1.out _ (HB.out _ _))); clear hK K)
      (refine rel_fix0 (fun K hK => ?_); go_simp; refine hK _ ?_; clear hK K)
      (refine rel_fix0 (fun K hK => ?_); go_simp; refine hK _ ?_; clear hK K)
      (refine rel_fix0 (fun K hK => ?_); go_simp; refine hK _ ?_; clear hK K)
      (refine rel_fix0 (fun K hK => ?_); go_simp; apply Exists.intro; refine ⟨fun _ _ => ?_, hK _ ?_⟩; (with_reducible exact ret_fix (H2.out _ (HB.out _ _))); clear hK K)
      (refine rel_fix0 (fun K hK => ?_); go_simp; refine hK _ ?_; clear hK K)
      (refine rel_fix0 (fun K hK => ?_); go_simp; refine hK _ ?_; clear hK K)
      (refine rel_fix0 (fun K hK => ?_); go_simp; refine hK _ ?_; clear hK K)
      (refine rel_fix0 (fun K hK => ?_); go_simp; refine hK _ ?_; clear hK K)
      (refine rel_fix0 (fun K hK => ?_); go_simp; refine hK _ ?_; clear hK K)
      (refine rel_fix0 (fun K hK => ?_); go_simp; apply Exists.intro; refine ⟨fun _ _ => ?_, hK _ ?_⟩; (with_reducible exact ret_fix (H3.out _ (HB.out _ _))); clear hK K)
      (refine rel_fix0 (fun K hK => ?_); go_simp; refine hK _ ?_; clear hK K)
      (refine rel_fix0 (fun K hK => ?_); go_simp; refine hK _ ?_; clear hK K)
      (refine rel_fix0 (fun K hK => ?_); go_simp; refine hK _ ?_; clear hK K)
      (refine rel_fix0 (fun K hK => ?_); go_simp; refine hK _ ?_; clear hK K)
      (refine rel_fix0 (fun K hK => ?_); go_simp; refine hK _ ?_; clear hK K)
      (refine rel_fix0 (fun K hK => ?_); go_simp; apply Exists.intro; refine ⟨fun _ _ => ?_, hK _ ?_⟩; (with_reducible exact ret_fix (H4.out _ (HB.out _ _))); clear hK K)
      (refine rel_fix0 (fun K hK => ?_); go_simp; refine hK _ ?_; clear hK K)
      (refine rel_fix0 (fun K hK => ?_); go_simp; refine hK _ ?_; clear hK K)
      (refine rel_fix0 (fun K hK => ?_); go_simp; refine hK _ ?_; clear hK K)
      (refine rel_fix0 (fun K hK => ?_); go_simp; refine hK _ ?_; clear hK K)
      (refine rel_fix0 (fun K hK => ?_); go_simp; refine hK _ ?_; clear hK K)
      (refine rel_fix0 (fun K hK => ?_); go_simp; apply Exists.intro; refine ⟨fun _ _ => ?_, hK _ ?_⟩; (with_reducible exact ret_fix (H5.out _ (HB.out _ _))); clear hK K)
      (refine rel_fix0 (fun K hK => ?_); go_simp; refine hK _ ?_; clear hK K)
      (refine rel_fix0 (fun K hK => ?_); go_simp; refine hK _ ?_; clear hK K)
      (refine rel_fix0 (fun K hK => ?_); go_simp; refine hK _ ?_; clear hK K)
      (refine rel_fix0 (fun K hK => ?_); go_simp; refine hK _ ?_; clear hK K)
      (refine rel_fix0 (fun K hK => ?_); go_simp; refine hK _ ?_; clear hK K)
      (refine rel_fix0 (fun K hK => ?_); go_simp; apply Exists.intro; refine ⟨fun _ _ => ?_, hK _ ?_⟩; (with_reducible exact ret_fix (H6.out _ (HB.out _ _))); clear hK K)
      (refine rel_fix0 (fun K hK => ?_); go_simp; refine hK _ ?_; clear hK K)
      (refine rel_fix0 (fun K hK => ?_); go_simp; refine hK _ ?_; clear hK K)
      (refine rel_fix0 (fun K hK => ?_); go_simp; refine hK _ ?_; clear hK K)
      (refine rel_fix0 (fun K hK => ?_); go_simp; refine hK _ ?_; clear hK K)
      (refine rel_fix0 (fun K hK => ?_); go_simp; refine hK _ ?_; clear hK K)
      (refine rel_fix0 (fun K hK => ?_); go_simp; apply Exists.intro; refine ⟨fun _ _ => ?_, hK _ ?_⟩; (with_reducible exact ret_fix (H7.out _ (HB.out _ _))); clear hK K)
      (refine rel_fix0 (fun K hK => ?_); go_simp; refine hK _ ?_; clear hK K)
      (refine rel_fix0 (fun K hK => ?_); go_simp; refine hK _ ?_; clear hK K)
      (refine rel_fix0 (fun K hK => ?_); go_simp; refine hK _ ?_; clear hK K)
      (refine rel_fix0 (fun K hK => ?_); go_simp; refine hK _ ?_; clear hK K)
      (refine rel_fix0 (fun K hK => ?_); go_simp; refine hK _ ?_; clear hK K)
      (refine rel_fix0 (fun K hK => ?_); go_simp; refine hK _ ?_; clear hK K)
      (refine rel_fix0 (fun K hK => ?_); go_simp; refine hK _ ?_; clear hK K)
      (refine rel_fix0 (fun K hK => ?_); go_simp; refine hK _ ?_; clear hK K)
      (refine rel_fix0 (fun K hK => ?_); go_simp; refine hK _ ?_; clear hK K)
      refine rel_fact [] (RowOf 1 encI L) 87 rfl (by simp [Act.put]) (row_sta _ _ _) (by rfl) (by kernel_rfl) (by kernel_rfl) ?_ ?_
      · intro d os
        simp only [relAll]
        go_simp
        exact ret_fact (H8.out _ (HB.out _ _))
      (refine rel_fix (by kernel_rfl) (by kernel_rfl) (fun K hK => ?_); go_simp; refine hK _ ?_; clear hK K)
      refine rel_fact [] (RowOf 1 encI L) 89 rfl (by simp [Act.put]) (row_sta _ _ _) (by rfl) (by kernel_rfl) (by kernel_rfl) ?_ ?_
      · intro d os
        simp only [relAll]
        go_simp
        exact ret_fact (H9.out _ (HB.out _ _))
      refine rel_use [(89, _), (87, _)] (.bool true) (by rfl) (by kernel_rfl) (by kernel_rfl) ?_ ?_
      · intro d os
        simp only [relAll]
        rintro u2 r2 u1 r1
        go_simp
        exact ret_fix (HQ.out _ _ _ r1 r2)
      refine rel_nil ?_
      intro d os
      simp only [relAll]
      rintro v89 - v87 -
      replace bel := HB.out d os
      clear g0 g1 g2 g3 g4
      clear HB
      generalize grow (redrawn _ d) os = WZ at bel ⊢
      go_wp2_with fail
      go_ret
      exact ⟨rfl, bel⟩
  · have e1 : nodeL l = -1 := if_neg q1
    have e2 : invL l = false := by unfold invL; rw [decide_eq_false q1]; rfl
    have e3 : notL l = l := if_neg q1
    rw [e1] at H3
    rw [e2] at H4
    rw [e3] at H5
    clear e1 e2 e3
    by_cases q2 : 0 ≤ n
    · by_cases q3 : n ≤ 4416
      · have e1 : makeL n p = 2 * n + (if p = true then 1 else 0) := if_pos ⟨q2, q3⟩
        rw [e1] at H2
        clear e1
        cases p
        · simp only [Bool.false_eq_true, if_false, Int.add_zero] at H2
          go_upto_region 10 with fail
          have HB := Lib.hid (fun d os => bel.trans ((below_regrown W0 d os).mono bel.size))
          have g0 := cell_regrown x0
          have g1 := cell_regrown x1
          have g2 := cell_regrown x2
          have g3 := cell_regrown x3
          have g4 := cell_regrown x4
          clear x0 x1 x2 x3 x4
          refine wp_region_rel 48 (by kernel_rfl) (by kernel_rfl) ?_
          simp only [List.take_succ_cons, List.take_zero, List.drop_succ_cons, List.drop_zero]
          (refine rel_fix0 (fun K hK => ?_); go_simp; apply Exists.intro; refine ⟨fun _ _ => ?_, hK _ ?_⟩; (with_reducible exact ret_fix (H1.out _ (HB.out _ _))); clear hK K)
          (refine rel_fix0 (fun K hK => ?_); go_simp; refine hK _ ?_; clear hK K)
          (refine rel_fix0 (fun K hK => ?_); go_simp; refine hK _ ?_; clear hK K)
          (refine rel_fix0 (fun K hK => ?_); go_simp; refine hK _ ?_; clear hK K)
          (refine rel_fix0 (fun K hK => ?_); go_simp; apply Exists.intro; refine ⟨fun _ _ => ?_, hK _ ?_⟩; (with_reducible exact ret_fix (H2.out _ (HB.out _ _))); clear hK K)
          (refine rel_fix0 (fun K hK => ?_); go_simp; refine hK _ ?_; clear hK K)
          (refine rel_fix0 (fun K hK => ?_); go_simp; refine hK _ ?_; clear hK K)
          (refine rel_fix0 (fun K hK => ?_); go_simp; refine hK _ ?_; clear hK K)
          (refine rel_fix0 (fun K hK => ?_); go_simp; refine hK _ ?_; clear hK K)
          (refine rel_fix0 (fun K hK => ?_); go_simp; refine hK _ ?_; clear hK K)
          (refine rel_fix0 (fun K hK => ?_); go_simp; apply Exists.intro; refine ⟨fun _ _ => ?_, hK _ ?_⟩; (with_reducible exact ret_fix (H3.out _ (HB.out _ _))); clear hK K)
          (refine rel_fix0 (fun K hK => ?_); go_simp; refine hK _ ?_; clear hK K)
          (refine rel_fix0 (fun K hK => ?_); go_simp; refine hK _ ?_; clear hK K)
          (refine rel_fix0 (fun K hK => ?_); go_simp; refine hK _ ?_; clear hK K)
          (refine rel_fix0 (fun K hK => ?_); go_simp; refine hK _ ?_; clear hK K)
          (refine rel_fix0 (fun K hK => ?_); go_simp; refine hK _ ?_; clear hK K)
          (refine rel_fix0 (fun K hK => ?_); go_simp; apply Exists.intro; refine ⟨fun _ _ => ?_, hK _ ?_⟩; (with_reducible exact ret_fix (H4.out _ (HB.out _ _))); clear hK K)
          (refine rel_fix0 (fun K hK => ?_); go_simp; refine hK _ ?_; clear hK K)
          (refine rel_fix0 (fun K hK => ?_); go_simp; refine hK _ ?_; clear hK K)
          (refine rel_fix0 (fun K hK => ?_); go_simp; refine hK _ ?_; clear hK K)
          (refine rel_fix0 (fun K hK => ?_); go_simp; refine hK _ ?_; clear hK K)
          (refine rel_fix0 (fun K hK => ?_); go_simp; refine hK _ ?_; clear hK K)
          (refine rel_fix0 (fun K hK => ?_); go_simp; apply Exists.intro; refine ⟨fun _ _ => ?_, hK _ ?_⟩; (with_reducible exact ret_fix (H5.out _ (HB.out _ _))); clear hK K)
          (refine rel_fix0 (fun K hK => ?_); go_simp; refine hK _ ?_; clear hK K)
          (refine rel_fix0 (fun K hK => ?_); go_simp; refine hK _ ?_; clear hK K)
          (refine rel_fix0 (fun K hK => ?_); go_simp; refine hK _ ?_; clear hK K)
          (refine rel_fix0 (fun K hK => ?_); go_simp; refine hK _ ?_; clear hK K)
          (refine rel_fix0 (fun K hK => ?_); go_simp; refine hK _ ?_; clear hK K)
          (refine rel_fix0 (fun K hK => ?_); go_simp; apply Exists.intro; refine ⟨fun _ _ => ?_, hK _ ?_⟩; (with_reducible exact ret_fix (H6.out _ (HB.out _ _))); clear hK K)
          (refine rel_fix0 (fun K hK => ?_); go_simp; refine hK _ ?_; clear hK K)
          (refine rel_fix0 (fun K hK => ?_); go_simp; refine hK _ ?_; clear hK K)
          (refine rel_fix0 (fun K hK => ?_); go_simp; refine hK _ ?_; clear hK K)
          (refine rel_fix0 (fun K hK => ?_); go_simp; refine hK _ ?_; clear hK K)
          (refine rel_fix0 (fun K hK => ?_); go_simp; refine hK _ ?_; clear hK K)
          (refine rel_fix0 (fun K hK => ?_); go_simp; apply Exists.intro; refine ⟨fun _ _ => ?_, hK _ ?_⟩; (with_reducible exact ret_fix (H7.out _ (HB.out _ _))); clear hK K)
          (refine rel_fix0 (fun K hK => ?_); go_simp; refine hK _ ?_; clear hK K)
          (refine rel_fix0 (fun K hK => ?_); go_simp; refine hK _ ?_; clear hK K)
          (refine rel_fix0 (fun K hK => ?_); go_simp; refine hK _ ?_; clear hK K)
          (refine rel_fix0 (fun K hK => ?_); go_simp; refine hK _ ?_; clear hK K)
          (refine rel_fix0 (fun K hK => ?_); go_simp; refine hK _ ?_; clear hK K)
          (refine rel_fix0 (fun K hK => ?_); go_simp; refine hK _ ?_; clear hK K)
          (refine rel_fix0 (fun K hK => ?_); go_simp; refine hK _ ?_; clear hK K)
          (refine rel_fix0 (fun K hK => ?_); go_simp; refine hK _ ?_; clear hK K)
          (refine rel_fix0 (fun K hK => ?_); go_simp; refine hK _ ?_; clear hK K)
          refine rel_fact [] (RowOf 1 encI L) 87 rfl (by simp [Act.put]) (row_sta _ _ _) (by rfl) (by kernel_rfl) (by kernel_rfl) ?_ ?_
          · intro d os
            simp only [relAll]
            go_simp
            exact ret_fact (H8.out _ (HB.out _ _))
          (refine rel_fix (by kernel_rfl) (by kernel_rfl) (fun K hK => ?_); go_simp; refine hK _ ?_; clear hK K)
          refine rel_fact [] (RowOf 1 encI L) 89 rfl (by simp [Act.put]) (row_sta _ _ _) (by rfl) (by kernel_rfl) (by kernel_rfl) ?_ ?_
          · intro d os
            simp only [relAll]
            go_simp
            exact ret_fact (H9.out _ (HB.out _ _))
          refine rel_use [(89, _), (87, _)] (.bool true) (by rfl) (by kernel_rfl) (by kernel_rfl) ?_ ?_
          · intro d os
            simp only [relAll]
            rintro u2 r2 u1 r1
            go_simp
            exact ret_fix (HQ.out _ _ _ r1 r2)
          refine rel_nil ?_
          intro d os
          simp only [relAll]
          rintro v89 - v87 -
          replace bel := HB.out d os
          clear g0 g1 g2 g3 g4
          clear HB
          generalize grow (redrawn _ d) os = WZ at bel ⊢
          go_wp2_with fail
          go_ret
          exact ⟨rfl, bel⟩
        · simp only [if_true] at H2
          go_upto_region 10 with fail
          have HB := Lib.hid (fun d os => bel.trans ((below_regrown W0 d os).mono bel.size))
          have g0 := cell_regrown x0
          have g1 := cell_regrown x1
          have g2 := cell_regrown x2
          have g3 := cell_regrown x3
          have g4 := cell_regrown x4
          clear x0 x1 x2 x3 x4
          refine wp_region_rel 48 (by kernel_rfl) (by kernel_rfl) ?_
          simp only [List.take_succ_cons, List.take_zero, List.drop_succ_cons, List.drop_zero]
          (refine rel_fix0 (fun K hK => ?_); go_simp; apply Exists.intro; refine ⟨fun _ _ => ?_, hK _ ?_⟩; (with_reducible exact ret_fix (H1.out _ (HB.out _ _))); clear hK K)
          (refine rel_fix0 (fun K hK => ?_); go_simp; refine hK _ ?_; clear hK K)
          (refine rel_fix0 (fun K hK => ?_); go_simp; refine hK _ ?_; clear hK K)
          (refine rel_fix0 (fun K hK => ?_); go_simp; refine hK _ ?_; clear hK K)
          (refine rel_fix0 (fun K hK => ?_); go_simp; apply Exists.intro; refine ⟨fun _ _ => ?_, hK _ ?_⟩; (with_reducible exact ret_fix (H2.out _ (HB.out _ _))); clear hK K)
          (refine rel_fix0 (fun K hK => ?_); go_simp; refine hK _ ?_; clear hK K)
          (refine rel_fix0 (fun K hK => ?_); go_simp; refine hK _ ?_; clear hK K)
          (refine rel_fix0 (fun K hK => ?_); go_simp; refine hK _ ?_; clear hK K)
          (refine rel_fix0 (fun K hK => ?_); go_simp; refine hK _ ?_; clear hK K)
          (refine rel_fix0 (fun K hK => ?_); go_simp; refine hK _ ?_; clear hK K)
          (refine rel_fix0 (fun K hK => ?_); go_simp; apply Exists.intro; refine ⟨fun _ _ => ?_, hK _ ?_⟩; (with_reducible exact ret_fix (H3.out _ (HB.out _ _))); clear hK K)
          (refine rel_fix0 (fun K hK => ?_); go_simp; refine hK _ ?_; clear hK K)
          (refine rel_fix0 (fun K hK => ?_); go_simp; refine hK _ ?_; clear hK K)
          (refine rel_fix0 (fun K hK => ?_); go_simp; refine hK _ ?_; clear hK K)
          (refine rel_fix0 (fun K hK => ?_); go_simp; refine hK _ ?_; clear hK K)
          (refine rel_fix0 (fun K hK => ?_); go_simp; refine hK _ ?_; clear hK K)
          (refine rel_fix0 (fun K hK => ?_); go_simp; apply Exists.intro; refine ⟨fun _ _ => ?_, hK _ ?_⟩; (with_reducible exact ret_fix (H4.out _ (HB.out _ _))); clear hK K)
          (refine rel_fix0 (fun K hK => ?_); go_simp; refine hK _ ?_; clear hK K)
          (refine rel_fix0 (fun K hK => ?_); go_simp; refine hK _ ?_; clear hK K)
          (refine rel_fix0 (fun K hK => ?_); go_simp; refine hK _ ?_; clear hK K)
          (refine rel_fix0 (fun K hK => ?_); go_simp; refine hK _ ?_; clear hK K)
          (refine rel_fix0 (fun K hK => ?_); go_simp; refine hK _ ?_; clear hK K)
          (refine rel_fix0 (fun K hK => ?_); go_simp; apply Exists.intro; refine ⟨fun _ _ => ?_, hK _ ?_⟩; (with_reducible exact ret_fix (H5.out _ (HB.out _ _))); clear hK K)
          (refine rel_fix0 (fun K hK => ?_); go_simp; refine hK _ ?_; clear hK K)
          (refine rel_fix0 (fun K hK => ?_); go_simp; refine hK _ ?_; clear hK K)
          (refine rel_fix0 (fun K hK => ?_); go_simp; refine hK _ ?_; clear hK K)
          (refine rel_fix0 (fun K hK => ?_); go_simp; refine hK _ ?_; clear hK K)
          (refine rel_fix0 (fun K hK => ?_); go_simp; refine hK _ ?_; clear hK K)
          (refine rel_fix0 (fun K hK => ?_); go_simp; apply Exists.intro; refine ⟨fun _ _ => ?_, hK _ ?_⟩; (with_reducible exact ret_fix (H6.out _ (HB.out _ _))); clear hK K)
          (refine rel_fix0 (fun K hK => ?_); go_simp; refine hK _ ?_; clear hK K)
          (refine rel_fix0 (fun K hK => ?_); go_simp; refine hK _ ?_; clear hK K)
          (refine rel_fix0 (fun K hK => ?_); go_simp; refine hK _ ?_; clear hK K)
          (refine rel_fix0 (fun K hK => ?_); go_simp; refine hK _ ?_; clear hK K)
          (refine rel_fix0 (fun K hK => ?_); go_simp; refine hK _ ?_; clear hK K)
          (refine rel_fix0 (fun K hK => ?_); go_simp; apply Exists.intro; refine ⟨fun _ _ => ?_, hK _ ?_⟩; (with_reducible exact ret_fix (H7.out _ (HB.out _ _))); clear hK K)
          (refine rel_fix0 (fun K hK => ?_); go_simp; refine hK _ ?_; clear hK K)
          (refine rel_fix0 (fun K hK => ?_); go_simp; refine hK _ ?_; clear hK K)
          (refine rel_fix0 (fun K hK => ?_); go_simp; refine hK _ ?_; clear hK K)
          (refine rel_fix0 (fun K hK => ?_); go_simp; refine hK _ ?_; clear hK K)
          (refine rel_fix0 (fun K hK => ?_); go_simp; refine hK _ ?_; clear hK K)
          (refine rel_fix0 (fun K hK => ?_); go_simp; refine hK _ ?_; clear hK K)
          (refine rel_fix0 (fun K hK => ?_); go_simp; refine hK _ ?_; clear hK K)
          (refine rel_fix0 (fun K hK => ?_); go_simp; refine hK _ ?_; clear hK K)
          (refine rel_fix0 (fun K hK => ?_); go_simp; refine hK _ ?_; clear hK K)
          refine rel_fact [] (RowOf 1 encI L) 87 rfl (by simp [Act.put]) (row_sta _ _ _) (by rfl) (by kernel_rfl) (by kernel_rfl) ?_ ?_
          · intro d os
            simp only [relAll]
            go_simp
            exact ret_fact (H8.out _ (HB.out _ _))
          (refine rel_fix (by kernel_rfl) (by kernel_rfl) (fun K hK => ?_); go_simp; refine hK _ ?_; clear hK K)
          refine rel_fact [] (RowOf 1 encI L) 89 rfl (by simp [Act.put]) (row_sta _ _ _) (by rfl) (by kernel_rfl) (by kernel_rfl) ?_ ?_
          · intro d os
            simp only [relAll]
            go_simp
            exact ret_fact (H9.out _ (HB.out _ _))
          refine rel_use [(89, _), (87, _)] (.bool true) (by rfl) (by kernel_rfl) (by kernel_rfl) ?_ ?_
          · intro d os
            simp only [relAll]
            rintro u2 r2 u1 r1
            go_simp
            exact ret_fix (HQ.out _ _ _ r1 r2)
          refine rel_nil ?_
          intro d os
          simp only [relAll]
          rintro v89 - v87 -
          replace bel := HB.out d os
          clear g0 g1 g2 g3 g4
          clear HB
          generalize grow (redrawn _ d) os = WZ at bel ⊢
          go_wp2_with fail
          go_ret
          exact ⟨rfl, bel⟩
      · have e1 : makeL n p = 0 := if_neg (fun h => q3 h.2)
        rw [e1] at H2
        clear e1
        go_upto_region 10 with fail
        have HB := Lib.hid (fun d os => bel.trans ((below_regrown W0 d os).mono bel.size))
        have g0 := cell_regrown x0
        have g1 := cell_regrown x1
        have g2 := cell_regrown x2
        have g3 := cell_regrown x3
        have g4 := cell_regrown x4
        clear x0 x1 x2 x3 x4
        refine wp_region_rel 48 (by kernel_rfl) (by kernel_rfl) ?_
        simp only [List.take_succ_cons, List.take_zero, List.drop_succ_cons, List.drop_zero]
        (refine rel_fix0 (fun K hK => ?_); go_simp; apply Exists.intro; refine ⟨fun _ _ => ?_, hK _ ?_⟩; (with_reducible exact ret_fix (H1.out _ (HB.out _ _))); clear hK K)
        (refine rel_fix0 (fun K hK => ?_); go_simp; refine hK _ ?_; clear hK K)
        (refine rel_fix0 (fun K hK => ?_); go_simp; refine hK _ ?_; clear hK K)
        (refine rel_fix0 (fun K hK => ?_); go_simp; refine hK _ ?_; clear hK K)
        (refine rel_fix0 (fun K hK => ?_); go_simp; apply Exists.intro; refine ⟨fun _ _ => ?_, hK _ ?_⟩; (with_reducible exact ret_fix (H2.out _ (HB.out _ _))); clear hK K)
        (refine rel_fix0 (fun K hK => ?_); go_simp; refine hK _ ?_; clear hK K)
        (refine rel_fix0 (fun K hK => ?_); go_simp; refine hK _ ?_; clear hK K)
        (refine rel_fix0 (fun K hK => ?_); go_simp; refine hK _ ?_; clear hK K)
        (refine rel_fix0 (fun K hK => ?_); go_simp; refine hK _ ?_; clear hK K)
        (refine rel_fix0 (fun K hK => ?_); go_simp; refine hK _ ?_; clear hK K)
        (refine rel_fix0 (fun K hK => ?_); go_simp; apply Exists.intro; refine ⟨fun _ _ => ?_, hK _ ?_⟩; (with_reducible exact ret_fix (H3.out _ (HB.out _ _))); clear hK K)
        (refine rel_fix0 (fun K hK => ?_); go_simp; refine hK _ ?_; clear hK K)
        (refine rel_fix0 (fun K hK => ?_); go_simp; refine hK _ ?_; clear hK K)
        (refine rel_fix0 (fun K hK => ?_); go_simp; refine hK _ ?_; clear hK K)
        (refine rel_fix0 (fun K hK => ?_); go_simp; refine hK _ ?_; clear hK K)
        (refine rel_fix0 (fun K hK => ?_); go_simp; refine hK _ ?_; clear hK K)
        (refine rel_fix0 (fun K hK => ?_); go_simp; apply Exists.intro; refine ⟨fun _ _ => ?_, hK _ ?_⟩; (with_reducible exact ret_fix (H4.out _ (HB.out _ _))); clear hK K)
        (refine rel_fix0 (fun K hK => ?_); go_simp; refine hK _ ?_; clear hK K)
        (refine rel_fix0 (fun K hK => ?_); go_simp; refine hK _ ?_; clear hK K)
        (refine rel_fix0 (fun K hK => ?_); go_simp; refine hK _ ?_; clear hK K)
        (refine rel_fix0 (fun K hK => ?_); go_simp; refine hK _ ?_; clear hK K)
        (refine rel_fix0 (fun K hK => ?_); go_simp; refine hK _ ?_; clear hK K)
        (refine rel_fix0 (fun K hK => ?_); go_simp; apply Exists.intro; refine ⟨fun _ _ => ?_, hK _ ?_⟩; (with_reducible exact ret_fix (H5.out _ (HB.out _ _))); clear hK K)
        (refine rel_fix0 (fun K hK => ?_); go_simp; refine hK _ ?_; clear hK K)
        (refine rel_fix0 (fun K hK => ?_); go_simp; refine hK _ ?_; clear hK K)
        (refine rel_fix0 (fun K hK => ?_); go_simp; refine hK _ ?_; clear hK K)
        (refine rel_fix0 (fun K hK => ?_); go_simp; refine hK _ ?_; clear hK K)
        (refine rel_fix0 (fun K hK => ?_); go_simp; refine hK _ ?_; clear hK K)
        (refine rel_fix0 (fun K hK => ?_); go_simp; apply Exists.intro; refine ⟨fun _ _ => ?_, hK _ ?_⟩; (with_reducible exact ret_fix (H6.out _ (HB.out _ _))); clear hK K)
        (refine rel_fix0 (fun K hK => ?_); go_simp; refine hK _ ?_; clear hK K)
        (refine rel_fix0 (fun K hK => ?_); go_simp; refine hK _ ?_; clear hK K)
        (refine rel_fix0 (fun K hK => ?_); go_simp; refine hK _ ?_; clear hK K)
        (refine rel_fix0 (fun K hK => ?_); go_simp; refine hK _ ?_; clear hK K)
        (refine rel_fix0 (fun K hK => ?_); go_simp; refine hK _ ?_; clear hK K)
        (refine rel_fix0 (fun K hK => ?_); go_simp; apply Exists.intro; refine ⟨fun _ _ => ?_, hK _ ?_⟩; (with_reducible exact ret_fix (H7.out _ (HB.out _ _))); clear hK K)
        (refine rel_fix0 (fun K hK => ?_); go_simp; refine hK _ ?_; clear hK K)
        (refine rel_fix0 (fun K hK => ?_); go_simp; refine hK _ ?_; clear hK K)
        (refine rel_fix0 (fun K hK => ?_); go_simp; refine hK _ ?_; clear hK K)
        (refine rel_fix0 (fun K hK => ?_); go_simp; refine hK _ ?_; clear hK K)
        (refine rel_fix0 (fun K hK => ?_); go_simp; refine hK _ ?_; clear hK K)
        (refine rel_fix0 (fun K hK => ?_); go_simp; refine hK _ ?_; clear hK K)
        (refine rel_fix0 (fun K hK => ?_); go_simp; refine hK _ ?_; clear hK K)
        (refine rel_fix0 (fun K hK => ?_); go_simp; refine hK _ ?_; clear hK K)
        (refine rel_fix0 (fun K hK => ?_); go_simp; refine hK _ ?_; clear hK K)
        refine rel_fact [] (RowOf 1 encI L) 87 rfl (by simp [Act.put]) (row_sta _ _ _) (by rfl) (by kernel_rfl) (by kernel_rfl) ?_ ?_
        · intro d os
          simp only [relAll]
          go_simp
          exact ret_fact (H8.out _ (HB.out _ _))
        (refine rel_fix (by kernel_rfl) (by kernel_rfl) (fun K hK => ?_); go_simp; refine hK _ ?_; clear hK K)
        refine rel_fact [] (RowOf 1 encI L) 89 rfl (by simp [Act.put]) (row_sta _ _ _) (by rfl) (by kernel_rfl) (by kernel_rfl) ?_ ?_
        · intro d os
          simp only [relAll]
          go_simp
          exact ret_fact (H9.out _ (HB.out _ _))
        refine rel_use [(89, _), (87, _)] (.bool true) (by rfl) (by kernel_rfl) (by kernel_rfl) ?_ ?_
        · intro d os
          simp only [relAll]
          rintro u2 r2 u1 r1
          go_simp
          exact ret_fix (HQ.out _ _ _ r1 r2)
        refine rel_nil ?_
        intro d os
        simp only [relAll]
        rintro v89 - v87 -
        replace bel := HB.out d os
        clear g0 g1 g2 g3 g4
        clear HB
        generalize grow (redrawn _ d) os = WZ at bel ⊢
        go_wp2_with fail
        go_ret
        exact ⟨rfl, bel⟩
    · have e1 : makeL n p = 0 := if_neg (fun h => q2 h.1)
      rw [e1] at H2
      clear e1
      go_upto_region 10 with fail
      have HB := Lib.hid (fun d os => bel.trans ((below_regrown W0 d os).mono bel.size))
      have g0 := cell_regrown x0
      have g1 := cell_regrown x1
      have g2 := cell_regrown x2
      have g3 := cell_regrown x3
      have g4 := cell_regrown x4
      clear x0 x1 x2 x3 x4
      refine wp_region_rel 48 (by kernel_rfl) (by kernel_rfl) ?_
      simp only [List.take_succ_cons, List.take_zero, List.drop_succ_cons, List.drop_zero]
      (refine rel_fix0 (fun K hK => ?_); go_simp; apply Exists.intro; refine ⟨fun _ _ => ?_, hK _ ?_⟩; (with_reducible exact ret_fix (H1.out _ (HB.out _ _))); clear hK K)
      (refine rel_fix0 (fun K hK => ?_); go_simp; refine hK _ ?_; clear hK K)
      (refine rel_fix0 (fun K hK => ?_); go_simp; refine hK _ ?_; clear hK K)
      (refine rel_fix0 (fun K hK => ?_); go_simp; refine hK _ ?_; clear hK K)
      (refine rel_fix0 (fun K hK => ?_); go_simp; apply Exists.intro; refine ⟨fun _ _ => ?_, hK _ ?_⟩; (with_reducible exact ret_fix (H2.out _ (HB.out _ _))); clear hK K)
      (refine rel_fix0 (fun K hK => ?_); go_simp; refine hK _ ?_; clear hK K)
      (refine rel_fix0 (fun K hK => ?_); go_simp; refine hK _ ?_; clear hK K)
      (refine rel_fix0 (fun K hK => ?_); go_simp; refine hK _ ?_; clear hK K)
      (refine rel_fix0 (fun K hK => ?_); go_simp; refine hK _ ?_; clear hK K)
      (refine rel_fix0 (fun K hK => ?_); go_simp; refine hK _ ?_; clear hK K)
      (refine rel_fix0 (fun K hK => ?_); go_simp; apply Exists.intro; refine ⟨fun _ _ => ?_, hK _ ?_⟩; (with_reducible exact ret_fix (H3.out _ (HB.out _ _))); clear hK K)
      (refine rel_fix0 (fun K hK => ?_); go_simp; refine hK _ ?_; clear hK K)
      (refine rel_fix0 (fun K hK => ?_); go_simp; refine hK _ ?_; clear hK K)
      (refine rel_fix0 (fun K hK => ?_); go_simp; refine hK _ ?_; clear hK K)
      (refine rel_fix0 (fun K hK => ?_); go_simp; refine hK _ ?_; clear hK K)
      (refine rel_fix0 (fun K hK => ?_); go_simp; refine hK _ ?_; clear hK K)
      (refine rel_fix0 (fun K hK => ?_); go_simp; apply Exists.intro; refine ⟨fun _ _ => ?_, hK _ ?_⟩; (with_reducible exact ret_fix (H4.out _ (HB.out _ _))); clear hK K)
      (refine rel_fix0 (fun K hK => ?_); go_simp; refine hK _ ?_; clear hK K)
      (refine rel_fix0 (fun K hK => ?_); go_simp; refine hK _ ?_; clear hK K)
      (refine rel_fix0 (fun K hK => ?_); go_simp; refine hK _ ?_; clear hK K)
      (refine rel_fix0 (fun K hK => ?_); go_simp; refine hK _ ?_; clear hK K)
      (refine rel_fix0 (fun K hK => ?_); go_simp; refine hK _ ?_; clear hK K)
      (refine rel_fix0 (fun K hK => ?_); go_simp; apply Exists.intro; refine ⟨fun _ _ => ?_, hK _ ?_⟩; (with_reducible exact ret_fix (H5.out _ (HB.out _ _))); clear hK K)
      (refine rel_fix0 (fun K hK => ?_); go_simp; refine hK _ ?_; clear hK K)
      (refine rel_fix0 (fun K hK => ?_); go_simp; refine hK _ ?_; clear hK K)
      (refine rel_fix0 (fun K hK => ?_); go_simp; refine hK _ ?_; clear hK K)
      (refine rel_fix0 (fun K hK => ?_); go_simp; refine hK _ ?_; clear hK K)
      (refine rel_fix0 (fun K hK => ?_); go_simp; refine hK _ ?_; clear hK K)
      (refine rel_fix0 (fun K hK => ?_); go_simp; apply Exists.intro; refine ⟨fun _ _ => ?_, hK _ ?_⟩; (with_reducible exact ret_fix (H6.out _ (HB.out _ _))); clear hK K)
      (refine rel_fix0 (fun K hK => ?_); go_simp; refine hK _ ?_; clear hK K)
      (refine rel_fix0 (fun K hK => ?_); go_simp; refine hK _ ?_; clear hK K)
      (refine rel_fix0 (fun K hK => ?_); go_simp; refine hK _ ?_; clear hK K)
      (refine rel_fix0 (fun K hK => ?_); go_simp; refine hK _ ?_; clear hK K)
      (refine rel_fix0 (fun K hK => ?_); go_simp; refine hK _ ?_; clear hK K)
      (refine rel_fix0 (fun K hK => ?_); go_simp; apply Exists.intro; refine ⟨fun _ _ => ?_, hK _ ?_⟩; (with_reducible exact ret_fix (H7.out _ (HB.out _ _))); clear hK K)
      (refine rel_fix0 (fun K hK => ?_); go_simp; refine hK _ ?_; clear hK K)
      (refine rel_fix0 (fun K hK => ?_); go_simp; refine hK _ ?_; clear hK K)
      (refine rel_fix0 (fun K hK => ?_); go_simp; refine hK _ ?_; clear hK K)
      (refine rel_fix0 (fun K hK => ?_); go_simp; refine hK _ ?_; clear hK K)
      (refine rel_fix0 (fun K hK => ?_); go_simp; refine hK _ ?_; clear hK K)
      (refine rel_fix0 (fun K hK => ?_); go_simp; refine hK _ ?_; clear hK K)
      (refine rel_fix0 (fun K hK => ?_); go_simp; refine hK _ ?_; clear hK K)
      (refine rel_fix0 (fun K hK => ?_); go_simp; refine hK _ ?_; clear hK K)
      (refine rel_fix0 (fun K hK => ?_); go_simp; refine hK _ ?_; clear hK K)
      refine rel_fact [] (RowOf 1 encI L) 87 rfl (by simp [Act.put]) (row_sta _ _ _) (by rfl) (by kernel_rfl) (by kernel_rfl) ?_ ?_
      · intro d os
        simp only [relAll]
        go_simp
        exact ret_fact (H8.out _ (HB.out _ _))
      (refine rel_fix (by kernel_rfl) (by kernel_rfl) (fun K hK => ?_); go_simp; refine hK _ ?_; clear hK K)
      refine rel_fact [] (RowOf 1 encI L) 89 rfl (by simp [Act.put]) (row_sta _ _ _) (by rfl) (by kernel_rfl) (by kernel_rfl) ?_ ?_
      · intro d os
        simp only [relAll]
        go_simp
        exact ret_fact (H9.out _ (HB.out _ _))
      refine rel_use [(89, _), (87, _)] (.bool true) (by rfl) (by kernel_rfl) (by kernel_rfl) ?_ ?_
      · intro d os
        simp only [relAll]
        rintro u2 r2 u1 r1
        go_simp
        exact ret_fix (HQ.out _ _ _ r1 r2)
      refine rel_nil ?_
      intro d os
      simp only [relAll]
      rintro v89 - v87 -
      replace bel := HB.out d os
      clear g0 g1 g2 g3 g4
      clear HB
      generalize grow (redrawn _ d) os = WZ at bel ⊢
      go_wp2_with fail
      go_ret
      exact ⟨rfl, bel⟩
end Go.Proofs.Ytbphhcjepeamcaa
