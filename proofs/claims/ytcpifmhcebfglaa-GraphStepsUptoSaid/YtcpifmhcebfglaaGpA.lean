/- The program's Make, Node, Inverted, Not, First, Nodes and what they call: what they answer. Conditions: a number fits into 64 bits; a graph's rows have at most 4,000,000,000 elements. -/
import Derived.Test.YtcpifmhcebfglaaGlLd
namespace Go.Proofs.Ytcpifmhcebfglaa
open Go Go.RowKit Go.Sort
set_option linter.unusedVariables false
set_option maxRecDepth 100000 in
set_option maxHeartbeats 1600000 in
theorem node_any (l : Int) (w : World) : Calls Try.prog 86 #[.int .i64 l] w fun e w' => e = .returned (.int .i64 (nodeL l)) ∧ Below w.heap.size w w' := by
  go_enter Try.func86, Try.ntmps86
  by_cases q : 0 ≤ l
  · have e1 : nodeL l = l / 2 := if_pos q
    have q2 : ¬ l < 0 := by omega
    rw [e1]
    go_wp2_with fail
    go_ret
    exact ⟨rfl, Below.refl _ _⟩
  · have e1 : nodeL l = -1 := if_neg q
    have q2 : l < 0 := by omega
    rw [e1]
    go_wp2_with fail
    go_ret
    exact ⟨rfl, Below.refl _ _⟩
set_option maxRecDepth 100000 in
set_option maxHeartbeats 1600000 in
theorem inv_any (l : Int) (w : World) : Calls Try.prog 183 #[.int .i64 l] w fun e w' => e = .returned (.bool (invL l)) ∧ Below w.heap.size w w' := by
  go_enter Try.func183, Try.ntmps183
  by_cases q : 0 ≤ l
  · have e1 : Hid (invL l = (bits BinOp.and IntKind.i64 l 1 == 1)) := Lib.hid (by unfold invL; rw [band1_is, decide_eq_true q, Bool.true_and])
    go_wp2_with fail
    go_ret
    exact ⟨ret_bool e1.out.symm, Below.refl _ _⟩
  · have e1 : Hid (invL l = false) := Lib.hid (by unfold invL; rw [decide_eq_false q, Bool.false_and])
    go_wp2_with fail
    go_ret
    exact ⟨ret_bool e1.out.symm, Below.refl _ _⟩
set_option maxRecDepth 100000 in
set_option maxHeartbeats 1600000 in
theorem not_any (l : Int) (w : World) : Calls Try.prog 154 #[.int .i64 l] w fun e w' => e = .returned (.int .i64 (notL l)) ∧ Below w.heap.size w w' := by
  go_enter Try.func154, Try.ntmps154
  by_cases q : 0 ≤ l
  · have e1 : Hid (notL l = bits BinOp.xor IntKind.i64 l 1) := Lib.hid (if_pos q)
    have q2 : ¬ l < 0 := by omega
    go_wp2_with fail
    go_ret
    exact ⟨ret_num e1.out.symm, Below.refl _ _⟩
  · have e1 : Hid (notL l = l) := Lib.hid (if_neg q)
    have q2 : l < 0 := by omega
    go_wp2_with fail
    go_ret
    exact ⟨ret_num e1.out.symm, Below.refl _ _⟩
set_option maxRecDepth 100000 in
set_option maxHeartbeats 1600000 in
theorem literal_ok (n : Int) (w : World) (hn : -4000000000000000000 ≤ n ∧ n ≤ 4000000000000000000) : Calls Try.prog 84 #[.int .i64 n] w fun e w' => e = .returned (.int .i64 (2 * n)) ∧ Below w.heap.size w w' := by
  go_enter Try.func84, Try.ntmps84
  obtain ⟨h1, h2⟩ := hn
  have hw : IntKind.i64.wrap (2 * n) = 2 * n := IntWalk.i64_in _ (by omega)
  go_wp2_with fail
  go_ret
  exact ⟨rfl, Below.refl _ _⟩
theorem notL_even (n : Int) (h0 : 0 ≤ n) (h : n ≤ 4000000000000000000) : notL (2 * n) = 2 * n + 1 := by
  unfold notL
  rw [if_pos (by omega)]
  show IntKind.i64.wrap (((BitVec.ofInt 64 (2 * n) ^^^ BitVec.ofInt 64 1).toNat : Nat) : Int) = _
  have e1 : (BitVec.ofInt 64 (2 * n)).toNat = 2 * n.toNat := by rw [BitVec.toNat_ofInt]; omega
  have e2 : (BitVec.ofInt 64 1).toNat = 1 := by rfl
  have e3 : (2 * n.toNat) ^^^ 1 = 2 * n.toNat + 1 := by
    apply Nat.eq_of_testBit_eq
    intro i
    rw [Nat.testBit_xor]
    cases i with
    | zero => simp [Nat.testBit_zero]
    | succ i =>
      simp only [Nat.testBit_succ]
      rw [show 2 * n.toNat / 2 = n.toNat by omega, show (2 * n.toNat + 1) / 2 = n.toNat by omega, show (1 : Nat) / 2 = 0 from rfl]
      simp
  rw [BitVec.toNat_xor, e1, e2, e3, IntWalk.i64_in _ (by omega)]
  omega
/-- a literal is that of one of so many nodes -/
def hasL (n l : Int) : Bool := decide (0 ≤ l) && decide (l / 2 < n)
set_option maxRecDepth 100000 in
set_option maxHeartbeats 1600000 in
theorem has_any (n l : Int) (w : World) : Calls Try.prog 148 #[.int .i64 n, .int .i64 l] w fun e w' => e = .returned (.bool (hasL n l)) ∧ Below w.heap.size w w' := by
  go_enter Try.func148, Try.ntmps148
  have L1 := Lib.hid (fun W => node_any l W)
  by_cases q : 0 ≤ l
  · have e1 : Hid (hasL n l = decide (l / 2 < n)) := Lib.hid (by unfold hasL; rw [decide_eq_true q, Bool.true_and])
    rw [show nodeL l = l / 2 from if_pos q] at L1
    go_wp2_with (first | (go_at_call 86; refine (L1.out _).mono ?_; rintro ee w1 ⟨rfl, hb1⟩))
    go_ret
    exact ⟨ret_bool e1.out.symm, hb1⟩
  · have e1 : Hid (hasL n l = false) := Lib.hid (by unfold hasL; rw [decide_eq_false q, Bool.false_and])
    clear L1
    go_wp2_with fail
    go_ret
    exact ⟨ret_bool e1.out.symm, Below.refl _ _⟩
set_option maxRecDepth 100000 in
set_option maxHeartbeats 1600000 in
theorem first_ok (g : Gr) (v : Value) (w : World) (sg : Small g) (hG : GO g v w) : Calls Try.prog 83 #[v] w fun e w' => e = .returned (.int .i64 (1 + (g.ins.length : Int) + (g.regs.length : Int))) ∧ Below w.heap.size w w' := by
  obtain ⟨a, b, c, d0, e, a', b', c', d', e', rfl, hC, hA⟩ := hG.all
  clear hG
  have s1 := sg.ins
  have s3 := sg.regs
  go_enter Try.func83, Try.ntmps83
  go_upto_region 1 with fail
  have bel := (Below.refl w.heap.size w).alloc (Nat.le_refl _) (.cells #[.slice a g.ins.length a', .slice b g.outN.length b', .slice c g.regs.length c', .slice d0 g.ands.length d', .slice e g.outs.length e'] 31)
  have X := GX.new w (.slice a g.ins.length a') (.slice b g.outN.length b') (.slice c g.regs.length c') (.slice d0 g.ands.length d') (.slice e g.outs.length e') 31
  generalize w.alloc (.cells #[.slice a g.ins.length a', .slice b g.outN.length b', .slice c g.regs.length c', .slice d0 g.ands.length d', .slice e g.outs.length e'] 31) = W0 at bel X ⊢
  generalize hk : w.heap.size = k at X ⊢
  have HK := Lib.hid hk
  clear hk
  obtain ⟨x0, x1, x2, x3, x4⟩ := id X
  go_wp2_with fail
  go_ret
  exact ⟨rfl, bel⟩
set_option maxRecDepth 100000 in
set_option maxHeartbeats 1600000 in
theorem nodes_ok (g : Gr) (v : Value) (w : World) (sg : Small g) (hG : GO g v w) : Calls Try.prog 138 #[v] w fun e w' => e = .returned (.int .i64 (1 + (g.ins.length : Int) + (g.regs.length : Int) + (g.ands.length : Int))) ∧ Below w.heap.size w w' := by
  have hG0 := hG
  obtain ⟨a, b, c, d0, e, a', b', c', d', e', rfl, hC, hA⟩ := hG.all
  clear hG
  have s1 := sg.ins
  have s3 := sg.regs
  have s4 := sg.ands
  go_enter Try.func138, Try.ntmps138
  go_upto_region 1 with fail
  have bel := (Below.refl w.heap.size w).alloc (Nat.le_refl _) (.cells #[.slice a g.ins.length a', .slice b g.outN.length b', .slice c g.regs.length c', .slice d0 g.ands.length d', .slice e g.outs.length e'] 31)
  have X := GX.new w (.slice a g.ins.length a') (.slice b g.outN.length b') (.slice c g.regs.length c') (.slice d0 g.ands.length d') (.slice e g.outs.length e') 31
  generalize w.alloc (.cells #[.slice a g.ins.length a', .slice b g.outN.length b', .slice c g.regs.length c', .slice d0 g.ands.length d', .slice e g.outs.length e'] 31) = W0 at bel X ⊢
  generalize hk : w.heap.size = k at X ⊢
  have HK := Lib.hid hk
  clear hk
  obtain ⟨x0, x1, x2, x3, x4⟩ := id X
  have H1 := Lib.hid (fun W (hb : Below w.heap.size w W) => first_ok g _ W sg (hG0.below hb))
  have hwr : IntKind.i64.wrap (1 + (g.ins.length : Int) + (g.regs.length : Int) + (g.ands.length : Int)) = 1 + (g.ins.length : Int) + (g.regs.length : Int) + (g.ands.length : Int) := IntWalk.i64_in _ (by omega)
  clear hG0 hC hA
  have HB := Lib.hid (fun d os => bel.trans ((below_regrown W0 d os).mono bel.size))
  have g0 := cell_regrown x0
  have g1 := cell_regrown x1
  have g2 := cell_regrown x2
  have g3 := cell_regrown x3
  have g4 := cell_regrown x4
  clear x0 x1 x2 x3 x4
  refine wp_region_rel 6 (by kernel_rfl) (by kernel_rfl) ?_
  simp only [List.take_succ_cons, List.take_zero, List.drop_succ_cons, List.drop_zero]
  (refine rel_fix0 (fun K hK => ?_); go_simp; refine hK _ ?_; clear hK K)
  (refine rel_fix0 (fun K hK => ?_); go_simp; apply Exists.intro; refine ⟨fun _ _ => ?_, hK _ ?_⟩; (with_reducible exact ret_fix (H1.out _ (HB.out _ _))); clear hK K)
  (refine rel_fix0 (fun K hK => ?_); go_simp; refine hK _ ?_; clear hK K)
  (refine rel_fix0 (fun K hK => ?_); go_simp; refine hK _ ?_; clear hK K)
  (refine rel_fix0 (fun K hK => ?_); go_simp; refine hK _ ?_; clear hK K)
  (refine rel_fix0 (fun K hK => ?_); go_simp; refine hK _ ?_; clear hK K)
  refine rel_nil ?_
  intro d os
  simp only [relAll]
  replace bel := HB.out d os
  clear g0 g1 g2 g3 g4
  clear HB
  generalize grow (redrawn _ d) os = WZ at bel ⊢
  go_wp2_with fail
  go_ret
  exact ⟨rfl, bel⟩
theorem node_holds : NodeC := fun l w _ => node_any l w
theorem inv_holds : InvC := fun l w _ => inv_any l w
theorem not_holds : NotC := fun l w _ => not_any l w
theorem first_holds : FirstC := fun g v w sg hG => first_ok g v w sg hG
theorem nodes_holds : NodesC := fun g v w sg hG => nodes_ok g v w sg hG
end Go.Proofs.Ytcpifmhcebfglaa
