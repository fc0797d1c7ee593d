/- The law on checks: its walk. Asked: what is said here of Check, Same and Copy, and the fact. -/
import Derived.Test.YtbphhcjepeamcaaGlCd
namespace Go.Proofs.Ytbphhcjepeamcaa
open Go Go.RowKit Go.Sort
set_option linter.unusedVariables false
theorem go_sta (g : Gr) : Sta (GO g) := fun v w w' h hb => h.below hb
theorem same_self (g : Gr) : sameG g g = true := sameG_iff.2 rfl
set_option maxRecDepth 100000 in
set_option maxHeartbeats 4000000 in
theorem checks_law (hF : FactC) (hK : CheckC) (hS : SameC) (hY : CopyC) (g : Gr) (v : Value) (h : Gr) (u : Value) (sg : Small g) (sh : Small h) (w : World) (hG : GO g v w) (hH : GO h u w) : Calls Try.prog 5 #[v, u] w fun e w' => e = .returned (.bool true) ∧ Below w.heap.size w w' := by
  have hG0 := hG
  obtain ⟨a, b, c, d0, e, a', b', c', d', e', rfl, hC, hA⟩ := hG.all
  clear hG
  have hH0 := hH
  obtain ⟨za, zb, zc, zd, ze, za', zb', zc', zd', ze', rfl, zC, zA⟩ := hH.all
  clear hH hC hA zC zA
  go_enter Try.func5, Try.ntmps5
  go_upto_region 1 with fail
  have bel := ((Below.refl w.heap.size w).alloc (Nat.le_refl _) (.cells #[.slice a g.ins.length a', .slice b g.outN.length b', .slice c g.regs.length c', .slice d0 g.ands.length d', .slice e g.outs.length e'] 28)).alloc (by simp) (.cells #[.slice za h.ins.length za', .slice zb h.outN.length zb', .slice zc h.regs.length zc', .slice zd h.ands.length zd', .slice ze h.outs.length ze'] 28)
  have X := (GX.new w (.slice a g.ins.length a') (.slice b g.outN.length b') (.slice c g.regs.length c') (.slice d0 g.ands.length d') (.slice e g.outs.length e') 28).below ((Below.refl _ _).alloc (Nat.le_refl _) (.cells #[.slice za h.ins.length za', .slice zb h.outN.length zb', .slice zc h.regs.length zc', .slice zd h.ands.length zd', .slice ze h.outs.length ze'] 28))
  have Y := GX.new (w.alloc (.cells #[.slice a g.ins.length a', .slice b g.outN.length b', .slice c g.regs.length c', .slice d0 g.ands.length d', .slice e g.outs.length e'] 28)) (.slice za h.ins.length za') (.slice zb h.outN.length zb') (.slice zc h.regs.length zc') (.slice zd h.ands.length zd') (.slice ze h.outs.length ze') 28
  rw [show (w.alloc (.cells #[.slice a g.ins.length a', .slice b g.outN.length b', .slice c g.regs.length c', .slice d0 g.ands.length d', .slice e g.outs.length e'] 28)).heap.size = w.heap.size + 1 by simp] at Y
  generalize (w.alloc (.cells #[.slice a g.ins.length a', .slice b g.outN.length b', .slice c g.regs.length c', .slice d0 g.ands.length d', .slice e g.outs.length e'] 28)).alloc (.cells #[.slice za h.ins.length za', .slice zb h.outN.length zb', .slice zc h.regs.length zc', .slice zd h.ands.length zd', .slice ze h.outs.length ze'] 28) = W0 at bel X Y ⊢
  have H1 := Lib.hid (fun W (hb : Below w.heap.size w W) => hF W)
  have H2 := Lib.hid (fun W (hb : Below w.heap.size w W) => hK g _ W sg (hG0.below hb))
  have H3 := Lib.hid (fun W (hb : Below w.heap.size w W) => fault_any g _ sg W (hG0.below hb))
  have H4 := Lib.hid (fun W (hb : Below w.heap.size w W) => hS g h _ _ W sg sh (hG0.below hb) (hH0.below hb))
  have H5 := Lib.hid (fun W (hb : Below w.heap.size w W) => sameGraph_any g h _ _ sg sh W (hG0.below hb) (hH0.below hb))
  have H6 := Lib.hid (fun W (hb : Below w.heap.size w W) => by have := hS g g _ _ W sg sg (hG0.below hb) (hG0.below hb); rwa [same_self] at this)
  have H7 := Lib.hid (fun W (hb : Below w.heap.size w W) => hY g _ W sg (hG0.below hb))
  have H8 := Lib.hid (fun u W (hb : Below w.heap.size w W) (hu : GO g u W) => by have := sameGraph_any g g u _ sg sg W hu (hG0.below hb); rwa [same_self] at this)
  clear hF hK hS hY
  generalize faultG g = f at H2 H3
  generalize sameG g h = s at H4 H5
  have HST := Lib.hid (go_sta g)
  obtain ⟨x0, x1, x2, x3, x4⟩ := id X
  obtain ⟨y0, y1, y2, y3, y4⟩ := id Y
  have HB := Lib.hid (fun d os => bel.trans ((below_regrown W0 d os).mono bel.size))
  have g0 := cell_regrown x0
  have g1 := cell_regrown x1
  have g2 := cell_regrown x2
  have g3 := cell_regrown x3
  have g4 := cell_regrown x4
  have q0 := cell_regrown y0
  have q1 := cell_regrown y1
  have q2 := cell_regrown y2
  have q3 := cell_regrown y3
  have q4 := cell_regrown y4
  clear x0 x1 x2 x3 x4 y0 y1 y2 y3 y4
  refine wp_region_rel 28 (by kernel_rfl) (by kernel_rfl) ?_
  simp only [List.take_succ_cons, List.take_zero, List.drop_succ_cons, List.drop_zero]
  (refine rel_fix0 (fun K hK => ?_); go_simp; apply Exists.intro; refine ⟨fun _ _ => ?_, hK _ ?_⟩; (with_reducible exact ret_fix (H1.out _ (HB.out _ _))); clear hK K)
  (refine rel_fix0 (fun K hK => ?_); go_simp; refine hK _ ?_; clear hK K)
  (refine rel_fix0 (fun K hK => ?_); go_simp; refine hK _ ?_; clear hK K)
  (refine rel_fix0 (fun K hK => ?_); go_simp; apply Exists.intro; refine ⟨fun _ _ => ?_, hK _ ?_⟩; (with_reducible exact ret_fix (H2.out _ (HB.out _ _))); clear hK K)
  (refine rel_fix0 (fun K hK => ?_); go_simp; refine hK _ ?_; clear hK K)
  (refine rel_fix0 (fun K hK => ?_); go_simp; apply Exists.intro; refine ⟨fun _ _ => ?_, hK _ ?_⟩; (with_reducible exact ret_fix (H3.out _ (HB.out _ _))); clear hK K)
  (refine rel_fix0 (fun K hK => ?_); go_simp; refine hK _ ?_; clear hK K)
  (refine rel_fix0 (fun K hK => ?_); go_simp; refine hK _ ?_; clear hK K)
  (refine rel_fix0 (fun K hK => ?_); go_simp; refine hK _ ?_; clear hK K)
  (refine rel_fix0 (fun K hK => ?_); go_simp; refine hK _ ?_; clear hK K)
  (refine rel_fix0 (fun K hK => ?_); go_simp; refine hK _ ?_; clear hK K)
  (refine rel_fix0 (fun K hK => ?_); go_simp; apply Exists.intro; refine ⟨fun _ _ => ?_, hK _ ?_⟩; (with_reducible exact ret_fix (H4.out _ (HB.out _ _))); clear hK K)
  (refine rel_fix0 (fun K hK => ?_); go_simp; refine hK _ ?_; clear hK K)
  (refine rel_fix0 (fun K hK => ?_); go_simp; refine hK _ ?_; clear hK K)
  (refine rel_fix0 (fun K hK => ?_); go_simp; apply Exists.intro; refine ⟨fun _ _ => ?_, hK _ ?_⟩; (with_reducible exact ret_fix (H5.out _ (HB.out _ _))); clear hK K)
  (refine rel_fix0 (fun K hK => ?_); go_simp; refine hK _ ?_; clear hK K)
  (refine rel_fix0 (fun K hK => ?_); go_simp; refine hK _ ?_; clear hK K)
  (refine rel_fix0 (fun K hK => ?_); go_simp; refine hK _ ?_; clear hK K)
  (refine rel_fix0 (fun K hK => ?_); go_simp; refine hK _ ?_; clear hK K)
  (refine rel_fix0 (fun K hK => ?_); go_simp; refine hK _ ?_; clear hK K)
  (refine rel_fix0 (fun K hK => ?_); go_simp; apply Exists.intro; refine ⟨fun _ _ => ?_, hK _ ?_⟩; (with_reducible exact ret_fix (H6.out _ (HB.out _ _))); clear hK K)
  (refine rel_fix0 (fun K hK => ?_); go_simp; refine hK _ ?_; clear hK K)
  (refine rel_fix0 (fun K hK => ?_); go_simp; refine hK _ ?_; clear hK K)
  (refine rel_fix0 (fun K hK => ?_); go_simp; refine hK _ ?_; clear hK K)
  refine rel_fact [] (GO g) 29 rfl (by simp [Act.put]) (HST.out) (by rfl) (by kernel_rfl) (by kernel_rfl) ?_ ?_
  · intro d os
    simp only [relAll]
    go_simp
    exact ret_fact (H7.out _ (HB.out _ _))
  (refine rel_fix (by kernel_rfl) (by kernel_rfl) (fun K hK => ?_); go_simp; refine hK _ ?_; clear hK K)
  refine rel_use [(29, _)] (.bool true) (by rfl) (by kernel_rfl) (by kernel_rfl) ?_ ?_
  · intro d os
    simp only [relAll]
    rintro u1 r1
    go_simp
    exact ret_fix (H8.out _ _ (HB.out _ _) r1)
  (refine rel_fix (by kernel_rfl) (by kernel_rfl) (fun K hK => ?_); go_simp; refine hK _ ?_; clear hK K)
  refine rel_nil ?_
  intro d os
  simp only [relAll]
  rintro v29 -
  replace bel := HB.out d os
  clear g0 g1 g2 g3 g4 q0 q1 q2 q3 q4 HB
  generalize grow (redrawn _ d) os = WZ at bel ⊢
  go_wp2_with fail
  go_ret
  exact ⟨rfl, bel⟩
end Go.Proofs.Ytbphhcjepeamcaa
