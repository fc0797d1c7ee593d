/- The program's Copy: the same graph in rows of the call's own. Condition: rows of at most 4,000,000,000 elements. -/
import Derived.Test.YtbphhcjepeamcaaGpG
import Derived.Test.YtbphhcjepeamcaaGlCd
namespace Go.Proofs.Ytbphhcjepeamcaa
open Go Go.RowKit Go.Sort
set_option linter.unusedVariables false
set_option maxRecDepth 100000 in
set_option maxHeartbeats 4000000 in
theorem copy_any (g : Gr) (v : Value) (w : World) (sg : Small g) (hG : GO g v w) : Calls Try.prog 33 #[v] w fun e w' => ∃ u, e = .returned u ∧ OG w.heap.size g u w' ∧ Below w.heap.size w w' := by
  have hG0 := hG
  obtain ⟨a, b, c, d0, e, a', b', c', d', e', rfl, hC, hA⟩ := hG.all
  clear hG
  go_enter Try.func33, Try.ntmps33
  go_upto_region 1 with fail
  have bel := ((Below.refl w.heap.size w).alloc (Nat.le_refl _) (.cells #[.slice a g.ins.length a', .slice b g.outN.length b', .slice c g.regs.length c', .slice d0 g.ands.length d', .slice e g.outs.length e'] 28)).alloc (by simp) (.cells #[.slice none 0 0, .slice none 0 0, .slice none 0 0, .slice none 0 0, .slice none 0 0] 28)
  have X := (GX.new w (.slice a g.ins.length a') (.slice b g.outN.length b') (.slice c g.regs.length c') (.slice d0 g.ands.length d') (.slice e g.outs.length e') 28).below ((Below.refl _ _).alloc (Nat.le_refl _) (.cells #[.slice none 0 0, .slice none 0 0, .slice none 0 0, .slice none 0 0, .slice none 0 0] 28))
  have Y : BG (w.heap.size + 1) (.slice none 0 0) (.slice none 0 0) (.slice none 0 0) (.slice none 0 0) (.slice none 0 0) ((w.alloc (.cells #[.slice a g.ins.length a', .slice b g.outN.length b', .slice c g.regs.length c', .slice d0 g.ands.length d', .slice e g.outs.length e'] 28)).alloc (.cells #[.slice none 0 0, .slice none 0 0, .slice none 0 0, .slice none 0 0, .slice none 0 0] 28)) := by
    have := Arr.allocV (w.alloc (.cells #[.slice a g.ins.length a', .slice b g.outN.length b', .slice c g.regs.length c', .slice d0 g.ands.length d', .slice e g.outs.length e'] 28)) [.slice none 0 0, .slice none 0 0, .slice none 0 0, .slice none 0 0, .slice none 0 0] 28
    rwa [show (w.alloc (.cells #[.slice a g.ins.length a', .slice b g.outN.length b', .slice c g.regs.length c', .slice d0 g.ands.length d', .slice e g.outs.length e'] 28)).heap.size = w.heap.size + 1 by simp] at this
  have hsz : w.heap.size + 1 < ((w.alloc (.cells #[.slice a g.ins.length a', .slice b g.outN.length b', .slice c g.regs.length c', .slice d0 g.ands.length d', .slice e g.outs.length e'] 28)).alloc (.cells #[.slice none 0 0, .slice none 0 0, .slice none 0 0, .slice none 0 0, .slice none 0 0] 28)).heap.size := by simp
  generalize (w.alloc (.cells #[.slice a g.ins.length a', .slice b g.outN.length b', .slice c g.regs.length c', .slice d0 g.ands.length d', .slice e g.outs.length e'] 28)).alloc (.cells #[.slice none 0 0, .slice none 0 0, .slice none 0 0, .slice none 0 0, .slice none 0 0] 28) = W0 at bel X Y hsz ⊢
  generalize hk : w.heap.size = k at X Y hsz bel ⊢
  have HK := Lib.hid hk
  clear hk
  have hkW : k ≤ W0.heap.size := by omega
  obtain ⟨x0, x1, x2, x3, x4⟩ := id X
  have HBW := Lib.hid (fun d os => below_regrown W0 d os)
  have HA := Lib.hid (fun W (hb : Below W0.heap.size W0 W) => hA.below (show Below w.heap.size w W by rw [HK.out]; exact bel.trans (hb.mono hkW)))
  have C0 := Lib.hid (fun W (hb : Below W0.heap.size W0 W) => (cloneT_any g.ins _ W sg.ins (RowOf.mk hC.ins (HA.out W hb).ins)).mono fun ee w' ⟨u, q1, q2, q3⟩ => (⟨u, q1, q2.mono hb.size, q3⟩ : ∃ u, ee = Ending.returned u ∧ OwnK W0.heap.size 9 1 encT w' u g.ins ∧ Below W.heap.size W w'))
  have C1 := Lib.hid (fun W (hb : Below W0.heap.size W0 W) => (cloneT_any g.outN _ W sg.outN (RowOf.mk hC.outN (HA.out W hb).outN)).mono fun ee w' ⟨u, q1, q2, q3⟩ => (⟨u, q1, q2.mono hb.size, q3⟩ : ∃ u, ee = Ending.returned u ∧ OwnK W0.heap.size 9 1 encT w' u g.outN ∧ Below W.heap.size W w'))
  have C2 := Lib.hid (fun W (hb : Below W0.heap.size W0 W) => (cloneR_any g.regs _ W sg.regs (RowOf.mk hC.regs (HA.out W hb).regs)).mono fun ee w' ⟨u, q1, q2, q3⟩ => (⟨u, q1, q2.mono hb.size, q3⟩ : ∃ u, ee = Ending.returned u ∧ OwnK W0.heap.size 89 3 encR w' u g.regs ∧ Below W.heap.size W w'))
  have C3 := Lib.hid (fun W (hb : Below W0.heap.size W0 W) => (cloneN_any g.ands _ W sg.ands (RowOf.mk hC.ands (HA.out W hb).ands)).mono fun ee w' ⟨u, q1, q2, q3⟩ => (⟨u, q1, q2.mono hb.size, q3⟩ : ∃ u, ee = Ending.returned u ∧ OwnK W0.heap.size 110 2 encN w' u g.ands ∧ Below W.heap.size W w'))
  have C4 := Lib.hid (fun W (hb : Below W0.heap.size W0 W) => (cloneI_any g.outs _ W sg.outs (RowOf.mk hC.outs (HA.out W hb).outs)).mono fun ee w' ⟨u, q1, q2, q3⟩ => (⟨u, q1, q2.mono hb.size, q3⟩ : ∃ u, ee = Ending.returned u ∧ OwnK W0.heap.size 22 1 encI w' u g.outs ∧ Below W.heap.size W w'))
  have g0 := cell_regrown x0
  have g1 := cell_regrown x1
  have g2 := cell_regrown x2
  have g3 := cell_regrown x3
  have g4 := cell_regrown x4
  have HY := Lib.hid Y
  have HBEL := Lib.hid bel
  clear x0 x1 x2 x3 x4 X Y hG0 hA hC bel
  refine wp_region_rel 15 (by kernel_rfl) (by kernel_rfl) ?_
  simp only [List.take_succ_cons, List.take_zero, List.drop_succ_cons, List.drop_zero]
  (refine rel_fix0 (fun K hK => ?_); go_simp; refine hK _ ?_; clear hK K)
  (refine rel_fix0 (fun K hK => ?_); go_simp; refine hK _ ?_; clear hK K)
  refine rel_fact [] (fun v w => OwnK (W0.heap.size) 9 1 encT w v (g.ins)) 5 rfl (by simp [Act.put]) (ownk_sta _ _ _ _ _) (by rfl) (by kernel_rfl) (by kernel_rfl) ?_ ?_
  · intro d os
    simp only [relAll]
    go_simp
    exact ret_fact (C0.out _ (HBW.out _ _))
  (refine rel_fix (by kernel_rfl) (by kernel_rfl) (fun K hK => ?_); go_simp; refine hK _ ?_; clear hK K)
  (refine rel_fix (by kernel_rfl) (by kernel_rfl) (fun K hK => ?_); go_simp; refine hK _ ?_; clear hK K)
  refine rel_fact [] (fun v w => OwnK (W0.heap.size) 9 1 encT w v (g.outN)) 8 rfl (by simp [Act.put]) (ownk_sta _ _ _ _ _) (by rfl) (by kernel_rfl) (by kernel_rfl) ?_ ?_
  · intro d os
    simp only [relAll]
    go_simp
    exact ret_fact (C1.out _ (HBW.out _ _))
  (refine rel_fix (by kernel_rfl) (by kernel_rfl) (fun K hK => ?_); go_simp; refine hK _ ?_; clear hK K)
  (refine rel_fix (by kernel_rfl) (by kernel_rfl) (fun K hK => ?_); go_simp; refine hK _ ?_; clear hK K)
  refine rel_fact [] (fun v w => OwnK (W0.heap.size) 89 3 encR w v (g.regs)) 11 rfl (by simp [Act.put]) (ownk_sta _ _ _ _ _) (by rfl) (by kernel_rfl) (by kernel_rfl) ?_ ?_
  · intro d os
    simp only [relAll]
    go_simp
    exact ret_fact (C2.out _ (HBW.out _ _))
  (refine rel_fix (by kernel_rfl) (by kernel_rfl) (fun K hK => ?_); go_simp; refine hK _ ?_; clear hK K)
  (refine rel_fix (by kernel_rfl) (by kernel_rfl) (fun K hK => ?_); go_simp; refine hK _ ?_; clear hK K)
  refine rel_fact [] (fun v w => OwnK (W0.heap.size) 110 2 encN w v (g.ands)) 14 rfl (by simp [Act.put]) (ownk_sta _ _ _ _ _) (by rfl) (by kernel_rfl) (by kernel_rfl) ?_ ?_
  · intro d os
    simp only [relAll]
    go_simp
    exact ret_fact (C3.out _ (HBW.out _ _))
  (refine rel_fix (by kernel_rfl) (by kernel_rfl) (fun K hK => ?_); go_simp; refine hK _ ?_; clear hK K)
  (refine rel_fix (by kernel_rfl) (by kernel_rfl) (fun K hK => ?_); go_simp; refine hK _ ?_; clear hK K)
  refine rel_fact [] (fun v w => OwnK (W0.heap.size) 22 1 encI w v (g.outs)) 17 rfl (by simp [Act.put]) (ownk_sta _ _ _ _ _) (by rfl) (by kernel_rfl) (by kernel_rfl) ?_ ?_
  · intro d os
    simp only [relAll]
    go_simp
    exact ret_fact (C4.out _ (HBW.out _ _))
  refine rel_nil ?_
  intro d os
  simp only [relAll]
  rintro v17 o17 v14 o14 v11 o11 v8 o8 v5 o5
  clear g0 g1 g2 g3 g4 C0 C1 C2 C3 C4
  have hb := HBW.out d os
  have Y := Arr.below HY.out hb
  have B2 := HBEL.out.trans (hb.mono hkW)
  have hs2 := hb.size
  clear hb HY HBW HA
  generalize grow (redrawn W0 d) os = W2 at Y B2 hs2 o17 o14 o11 o8 o5 ⊢
  obtain ⟨ad5, n5, cp5, rfl⟩ := OwnK.sl o5
  obtain ⟨ad8, n8, cp8, rfl⟩ := OwnK.sl o8
  obtain ⟨ad11, n11, cp11, rfl⟩ := OwnK.sl o11
  obtain ⟨ad14, n14, cp14, rfl⟩ := OwnK.sl o14
  obtain ⟨ad17, n17, cp17, rfl⟩ := OwnK.sl o17
  have q0 := Arr.free Y 0
  have q1 := Arr.free Y 1
  have q2 := Arr.free Y 2
  have q3 := Arr.free Y 3
  have q4 := Arr.free Y 4
  have lk := Arr.lt Y
  obtain ⟨y0, y1, y2, y3, y4⟩ := id (BG.gx Y)
  have hkb : k + 1 < W0.heap.size := hsz
  have HP0 := Lib.hid (o5.put5 (k + 1) (.slice ad5 n5 cp5) (.slice ad8 n8 cp8) (.slice ad11 n11 cp11) (.slice ad14 n14 cp14) (.slice ad17 n17 cp17) hkb)
  have HP1 := Lib.hid (o8.put5 (k + 1) (.slice ad5 n5 cp5) (.slice ad8 n8 cp8) (.slice ad11 n11 cp11) (.slice ad14 n14 cp14) (.slice ad17 n17 cp17) hkb)
  have HP2 := Lib.hid (o11.put5 (k + 1) (.slice ad5 n5 cp5) (.slice ad8 n8 cp8) (.slice ad11 n11 cp11) (.slice ad14 n14 cp14) (.slice ad17 n17 cp17) hkb)
  have HP3 := Lib.hid (o14.put5 (k + 1) (.slice ad5 n5 cp5) (.slice ad8 n8 cp8) (.slice ad11 n11 cp11) (.slice ad14 n14 cp14) (.slice ad17 n17 cp17) hkb)
  have HP4 := Lib.hid (o17.put5 (k + 1) (.slice ad5 n5 cp5) (.slice ad8 n8 cp8) (.slice ad11 n11 cp11) (.slice ad14 n14 cp14) (.slice ad17 n17 cp17) hkb)
  have HBP := Lib.hid (b5_mono B2 (Nat.le_succ k) (.slice ad5 n5 cp5) (.slice ad8 n8 cp8) (.slice ad11 n11 cp11) (.slice ad14 n14 cp14) (.slice ad17 n17 cp17))
  have HYP := Lib.hid (BG.gx (BG.all Y (.slice ad5 n5 cp5) (.slice ad8 n8 cp8) (.slice ad11 n11 cp11) (.slice ad14 n14 cp14) (.slice ad17 n17 cp17)))
  clear o5 o8 o11 o14 o17 B2 Y hs2
  go_wp2_with fail
  have hg := HYP.out
  have OGF : OG w.heap.size g (.agg #[(.slice ad5 n5 cp5), (.slice ad8 n8 cp8), (.slice ad11 n11 cp11), (.slice ad14 n14 cp14), (.slice ad17 n17 cp17)]) (put5 W2 (k + 1) (.slice ad5 n5 cp5) (.slice ad8 n8 cp8) (.slice ad11 n11 cp11) (.slice ad14 n14 cp14) (.slice ad17 n17 cp17)) := (OG.mk ⟨_, _, _, _, _, rfl, HP0.out, HP1.out, HP2.out, HP3.out, HP4.out⟩ : OG W0.heap.size g _ _).mono (by rw [HK.out]; exact hkW)
  have BF : Below w.heap.size w (put5 W2 (k + 1) (.slice ad5 n5 cp5) (.slice ad8 n8 cp8) (.slice ad11 n11 cp11) (.slice ad14 n14 cp14) (.slice ad17 n17 cp17)) := by rw [HK.out]; exact HBP.out
  unfold put5 at hg OGF BF
  generalize ((((W2.setCell ⟨k + 1, 0, none⟩ (.slice ad5 n5 cp5)).setCell ⟨k + 1, 1, none⟩ (.slice ad8 n8 cp8)).setCell ⟨k + 1, 2, none⟩ (.slice ad11 n11 cp11)).setCell ⟨k + 1, 3, none⟩ (.slice ad14 n14 cp14)).setCell ⟨k + 1, 4, none⟩ (.slice ad17 n17 cp17) = WF at hg OGF BF ⊢
  obtain ⟨z0, z1, z2, z3, z4⟩ := hg
  clear y0 y1 y2 y3 y4 q0 q1 q2 q3 q4 HP0 HP1 HP2 HP3 HP4 HYP HBP
  exact bodyPost_ret (v := .agg #[.slice ad5 n5 cp5, .slice ad8 n8 cp8, .slice ad11 n11 cp11, .slice ad14 n14 cp14, .slice ad17 n17 cp17]) (by simp [results, Try.results33, go_sem, z0, z1, z2, z3, z4]) rfl ⟨_, rfl, OGF, BF⟩
theorem copy_holds : CopyC := fun g v w sg hG => (copy_any g v w sg hG).mono fun e w' ⟨u, h1, h2, h3⟩ => ⟨u, h1, h2.go, h3⟩
end Go.Proofs.Ytbphhcjepeamcaa
