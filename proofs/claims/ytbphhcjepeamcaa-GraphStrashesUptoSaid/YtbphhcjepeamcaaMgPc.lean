/- The program's Copy: the same graph in rows of the call's own. Condition: rows of at most 4,000,000,000 elements.
   The program's follow, moved and kept: what a literal becomes. No condition but that the literal is that of a node.
   The program's rewired: a graph with other ands, and with what its roots became. Conditions: rows of at most 4,000,000,000 elements; the roots are literals of nodes. -/
import Derived.Test.YtbphhcjepeamcaaMgPa
import Derived.Test.YtbphhcjepeamcaaGlCd
import Derived.Test.YtbphhcjepeamcaaMgPb
namespace Go.Proofs.Ytbphhcjepeamcaa
open Go Go.RowKit Go.Sort
set_option linter.unusedVariables false
set_option maxRecDepth 100000 in
set_option maxHeartbeats 4000000 in
theorem copy_any (g : Gr) (v : Value) (w : World) (sg : Small g) (hG : GO g v w) : Calls Try.prog 33 #[v] w fun e w' => ∃ u, e = .returned u ∧ OG w.heap.size g u w' ∧ Below w.heap.size w w' := by
  have hG0 := hG
  obtain ⟨a, b, c, d0, e, a', b', c', d', e', rfl, hC, hA⟩ := hG.all
  clear hG
  go_enter Try.func33, Try.ntmps33
  go_upto_region 1 with fail
  have bel := ((Below.refl w.heap.size w).alloc (Nat.le_refl _) (.cells #[.slice a g.ins.length a', .slice b g.outN.length b', .slice c g.regs.length c', .slice d0 g.ands.length d', .slice e g.outs.length e'] 28)).alloc (by simp) (.cells #[.slice none 0 0, .slice none 0 0, .slice none 0 0, .slice none 0 0, .slice none 0 0] 28)
  have X := (GX.new w (.slice a g.ins.length a') (.slice b g.outN.length b') (.slice c g.regs.length c') (.slice d0 g.ands.length d') (.slice e g.outs.length e') 28).below ((Below.refl _ _).alloc (Nat.le_refl _) (.cells #[.slice none 0 0, .slice none 0 0, .slice none 0 0, .slice none 0 0, .slice none 0 0] 28))
  have Y : BG (w.heap.size + 1) (.slice none 0 0) (.slice none 0 0) (.slice none 0 0) (.slice none 0 0) (.slice none 0 0) ((w.alloc (.cells #[.slice a g.ins.length a', .slice b g.outN.length b', .slice c g.regs.length c', .slice d0 g.ands.length d', .slice e g.outs.length e'] 28)).alloc (.cells #[.slice none 0 0, .slice none 0 0, .slice none 0 0, .slice none 0 0, .slice none 0 0] 28)) := by
    have := Arr.allocV (w.alloc (.cells #[.slice a g.ins.length a', .slice b g.outN.length b', .slice c g.regs.length c', .slice d0 g.ands.length d', .slice e g.outs.length e'] 28)) [.slice none 0 0, .slice none 0 0, .slice none 0 0, .slice none 0 0, .slice none 0 0] 28
    rwa [show (w.alloc (.cells #[.slice a g.ins.length a', .slice b g.outN.length b', .slice c g.regs.length c', .slice d0 g.ands.length d', .slice e g.outs.length e'] 28)).heap.size = w.heap.size + 1 by simp] at this
  have hsz : w.heap.size + 1 < ((w.alloc (.cells #[.slice a g.ins.length a', .slice b g.outN.length b', .slice c g.regs.length c', .slice d0 g.ands.length d', .slice e g.outs.length e'] 28)).alloc (.cells #[.slice none 0 0, .slice none 0 0, .slice none 0 0, .slice none 0 0, .slice none 0 0] 28)).heap.size := by simp
  generalize (w.alloc (.cells #[.slice a g.ins.length a', .slice b g.outN.length b', .slice c g.regs.length c', .slice d0 g.ands.length d', .slice e g.outs.length e'] 28)).alloc (.cells #[.slice none 0 0, .slice none 0 0, .slice none 0 0, .slice none 0 0, .slice none 0 0] 28) = W0 at bel X Y hsz ⊢
  generalize hk : w.heap.size = k at X Y hsz bel ⊢
  have HK := Lib.hid hk
  clear hk
  have hkW : k ≤ W0.heap.size := by omega
  obtain ⟨x0, x1, x2, x3, x4⟩ := id X
  have HBW := Lib.hid (fun d os => below_regrown W0 d os)
  have HA := Lib.hid (fun W (hb : Below W0.heap.size W0 W) => hA.below (show Below w.heap.size w W by rw [HK.out]; exact bel.trans (hb.mono hkW)))
  have C0 := Lib.hid (fun W (hb : Below W0.heap.size W0 W) => (cloneT_any g.ins _ W sg.ins (RowOf.mk hC.ins (HA.out W hb).ins)).mono fun ee w' ⟨u, q1, q2, q3⟩ => (⟨u, q1, q2.mono hb.size, q3⟩ : ∃ u, ee = Ending.returned u ∧ OwnK W0.heap.size 9 1 encT w' u g.ins ∧ Below W.heap.size W w'))
  have C1 := Lib.hid (fun W (hb : Below W0.heap.size W0 W) => (cloneT_any g.outN _ W sg.outN (RowOf.mk hC.outN (HA.out W hb).outN)).mono fun ee w' ⟨u, q1, q2, q3⟩ => (⟨u, q1, q2.mono hb.size, q3⟩ : ∃ u, ee = Ending.returned u ∧ OwnK W0.heap.size 9 1 encT w' u g.outN ∧ Below W.heap.size W w'))
  have C2 := Lib.hid (fun W (hb : Below W0.heap.size W0 W) => (cloneR_any g.regs _ W sg.regs (RowOf.mk hC.regs (HA.out W hb).regs)).mono fun ee w' ⟨u, q1, q2, q3⟩ => (⟨u, q1, q2.mono hb.size, q3⟩ : ∃ u, ee = Ending.returned u ∧ OwnK W0.heap.size 89 3 encR w' u g.regs ∧ Below W.heap.size W w'))
  have C3 := Lib.hid (fun W (hb : Below W0.heap.size W0 W) => (cloneN_any g.ands _ W sg.ands (RowOf.mk hC.ands (HA.out W hb).ands)).mono fun ee w' ⟨u, q1, q2, q3⟩ => (⟨u, q1, q2.mono hb.size, q3⟩ : ∃ u, ee = Ending.returned u ∧ OwnK W0.heap.size 110 2 encN w' u g.ands ∧ Below W.heap.size W w'))
  have C4 := Lib.hid (fun W (hb : Below W0.heap.size W0 W) => (cloneI_any g.outs _ W sg.outs (RowOf.mk hC.outs (HA.out W hb).outs)).mono fun ee w' ⟨u, q1, q2, q3⟩ => (⟨u, q1, q2.mono hb.size, q3⟩ : ∃ u, ee = Ending.returned u ∧ OwnK W0.heap.size 22 1 encI w' u g.outs ∧ Below W.heap.size W w'))
  have g0 := cell_regrown x0
  have g1 := cell_regrown x1
  have g2 := cell_regrown x2
  have g3 := cell_regrown x3
  have g4 := cell_regrown x4
  have HY := Lib.hid Y
  have HBEL := Lib.hid bel
  clear x0 x1 x2 x3 x4 X Y hG0 hA hC bel
  refine wp_region_rel 15 (by kernel_rfl) (by kernel_rfl) ?_
  simp only [List.take_succ_cons, List.take_zero, List.drop_succ_cons, List.drop_zero]
  (refine rel_fix0 (fun K hK => ?_); go_simp; refine hK _ ?_; clear hK K)
  (refine rel_fix0 (fun K hK => ?_); go_simp; refine hK _ ?_; clear hK K)
  refine rel_fact [] (fun v w => OwnK (W0.heap.size) 9 1 encT w v (g.ins)) 5 rfl (by simp [Act.put]) (ownk_sta _ _ _ _ _) (by rfl) (by kernel_rfl) (by kernel_rfl) ?_ ?_
  · intro d os
    simp only [relAll]
    go_simp
    exact ret_fact (C0.out _ (HBW.out _ _))
  (refine rel_fix (by kernel_rfl) (by kernel_rfl) (fun K hK => ?_); go_simp; refine hK _ ?_; clear hK K)
  (refine rel_fix (by kernel_rfl) (by kernel_rfl) (fun K hK => ?_); go_simp; refine hK _ ?_; clear hK K)
  refine rel_fact [] (fun v w => OwnK (W0.heap.size) 9 1 encT w v (g.outN)) 8 rfl (by simp [Act.put]) (ownk_sta _ _ _ _ _) (by rfl) (by kernel_rfl) (by kernel_rfl) ?_ ?_
  · intro d os
    simp only [relAll]
    go_simp
    exact ret_fact (C1.out _ (HBW.out _ _))
  (refine rel_fix (by kernel_rfl) (by kernel_rfl) (fun K hK => ?_); go_simp; refine hK _ ?_; clear hK K)
  (refine rel_fix (by kernel_rfl) (by kernel_rfl) (fun K hK => ?_); go_simp; refine hK _ ?_; clear hK K)
  refine rel_fact [] (fun v w => OwnK (W0.heap.size) 89 3 encR w v (g.regs)) 11 rfl (by simp [Act.put]) (ownk_sta _ _ _ _ _) (by rfl) (by kernel_rfl) (by kernel_rfl) ?_ ?_
  · intro d os
    simp only [relAll]
    go_simp
    exact ret_fact (C2.out _ (HBW.out _ _))
  (refine rel_fix (by kernel_rfl) (by kernel_rfl) (fun K hK => ?_); go_simp; refine hK _ ?_; clear hK K)
  (refine rel_fix (by kernel_rfl) (by kernel_rfl) (fun K hK => ?_); go_simp; refine hK _ ?_; clear hK K)
  refine rel_fact [] (fun v w => OwnK (W0.heap.size) 110 2 encN w v (g.ands)) 14 rfl (by simp [Act.put]) (ownk_sta _ _ _ _ _) (by rfl) (by kernel_rfl) (by kernel_rfl) ?_ ?_
  · intro d os
    simp only [relAll]
    go_simp
    exact ret_fact (C3.out _ (HBW.out _ _))
  (refine rel_fix (by kernel_rfl) (by kernel_rfl) (fun K hK => ?_); go_simp; refine hK _ ?_; clear hK K)
  (refine rel_fix (by kernel_rfl) (by kernel_rfl) (fun K hK => ?_); go_simp; refine hK _ ?_; clear hK K)
  refine rel_fact [] (fun v w => OwnK (W0.heap.size) 22 1 encI w v (g.outs)) 17 rfl (by simp [Act.put]) (ownk_sta _ _ _ _ _) (by rfl) (by kernel_rfl) (by kernel_rfl) ?_ ?_
  · intro d os
    simp only [relAll]
    go_simp
    exact ret_fact (C4.out _ (HBW.out _ _))
  refine rel_nil ?_
  intro d os
  simp only [relAll]
  rintro v17 o17 v14 o14 v11 o11 v8 o8 v5 o5
  clear g0 g1 g2 g3 g4 C0 C1 C2 C3 C4
  have hb := HBW.out d os
  have Y := Arr.below HY.out hb
  have B2 := HBEL.out.trans (hb.mono hkW)
  have hs2 := hb.size
  clear hb HY HBW HA
  generalize grow (redrawn W0 d) os = W2 at Y B2 hs2 o17 o14 o11 o8 o5 ⊢
  obtain ⟨ad5, n5, cp5, rfl⟩ := OwnK.sl o5
  obtain ⟨ad8, n8, cp8, rfl⟩ := OwnK.sl o8
  obtain ⟨ad11, n11, cp11, rfl⟩ := OwnK.sl o11
  obtain ⟨ad14, n14, cp14, rfl⟩ := OwnK.sl o14
  obtain ⟨ad17, n17, cp17, rfl⟩ := OwnK.sl o17
  have q0 := Arr.free Y 0
  have q1 := Arr.free Y 1
  have q2 := Arr.free Y 2
  have q3 := Arr.free Y 3
  have q4 := Arr.free Y 4
  have lk := Arr.lt Y
  obtain ⟨y0, y1, y2, y3, y4⟩ := id (BG.gx Y)
  have hkb : k + 1 < W0.heap.size := hsz
  have HP0 := Lib.hid (o5.put5 (k + 1) (.slice ad5 n5 cp5) (.slice ad8 n8 cp8) (.slice ad11 n11 cp11) (.slice ad14 n14 cp14) (.slice ad17 n17 cp17) hkb)
  have HP1 := Lib.hid (o8.put5 (k + 1) (.slice ad5 n5 cp5) (.slice ad8 n8 cp8) (.slice ad11 n11 cp11) (.slice ad14 n14 cp14) (.slice ad17 n17 cp17) hkb)
  have HP2 := Lib.hid (o11.put5 (k + 1) (.slice ad5 n5 cp5) (.slice ad8 n8 cp8) (.slice ad11 n11 cp11) (.slice ad14 n14 cp14) (.slice ad17 n17 cp17) hkb)
  have HP3 := Lib.hid (o14.put5 (k + 1) (.slice ad5 n5 cp5) (.slice ad8 n8 cp8) (.slice ad11 n11 cp11) (.slice ad14 n14 cp14) (.slice ad17 n17 cp17) hkb)
  have HP4 := Lib.hid (o17.put5 (k + 1) (.slice ad5 n5 cp5) (.slice ad8 n8 cp8) (.slice ad11 n11 cp11) (.slice ad14 n14 cp14) (.slice ad17 n17 cp17) hkb)
  have HBP := Lib.hid (b5_mono B2 (Nat.le_succ k) (.slice ad5 n5 cp5) (.slice ad8 n8 cp8) (.slice ad11 n11 cp11) (.slice ad14 n14 cp14) (.slice ad17 n17 cp17))
  have HYP := Lib.hid (BG.gx (BG.all Y (.slice ad5 n5 cp5) (.slice ad8 n8 cp8) (.slice ad11 n11 cp11) (.slice ad14 n14 cp14) (.slice ad17 n17 cp17)))
  clear o5 o8 o11 o14 o17 B2 Y hs2
  go_wp2_with fail
  have hg := HYP.out
  have OGF : OG w.heap.size g (.agg #[(.slice ad5 n5 cp5), (.slice ad8 n8 cp8), (.slice ad11 n11 cp11), (.slice ad14 n14 cp14), (.slice ad17 n17 cp17)]) (put5 W2 (k + 1) (.slice ad5 n5 cp5) (.slice ad8 n8 cp8) (.slice ad11 n11 cp11) (.slice ad14 n14 cp14) (.slice ad17 n17 cp17)) := (OG.mk ⟨_, _, _, _, _, rfl, HP0.out, HP1.out, HP2.out, HP3.out, HP4.out⟩ : OG W0.heap.size g _ _).mono (by rw [HK.out]; exact hkW)
  have BF : Below w.heap.size w (put5 W2 (k + 1) (.slice ad5 n5 cp5) (.slice ad8 n8 cp8) (.slice ad11 n11 cp11) (.slice ad14 n14 cp14) (.slice ad17 n17 cp17)) := by rw [HK.out]; exact HBP.out
  unfold put5 at hg OGF BF
  generalize ((((W2.setCell ⟨k + 1, 0, none⟩ (.slice ad5 n5 cp5)).setCell ⟨k + 1, 1, none⟩ (.slice ad8 n8 cp8)).setCell ⟨k + 1, 2, none⟩ (.slice ad11 n11 cp11)).setCell ⟨k + 1, 3, none⟩ (.slice ad14 n14 cp14)).setCell ⟨k + 1, 4, none⟩ (.slice ad17 n17 cp17) = WF at hg OGF BF ⊢
  obtain ⟨z0, z1, z2, z3, z4⟩ := hg
  clear y0 y1 y2 y3 y4 q0 q1 q2 q3 q4 HP0 HP1 HP2 HP3 HP4 HYP HBP
  exact bodyPost_ret (v := .agg #[.slice ad5 n5 cp5, .slice ad8 n8 cp8, .slice ad11 n11 cp11, .slice ad14 n14 cp14, .slice ad17 n17 cp17]) (by simp [results, Try.results33, go_sem, z0, z1, z2, z3, z4]) rfl ⟨_, rfl, OGF, BF⟩
theorem copy_holds : CopyC := fun g v w sg hG => (copy_any g v w sg hG).mono fun e w' ⟨u, h1, h2, h3⟩ => ⟨u, h1, h2.go, h3⟩
end Go.Proofs.Ytbphhcjepeamcaa
namespace Go.Proofs.Ytbphhcjepeamcaa
open Go Go.RowKit Go.Sort
set_option linter.unusedVariables false
theorem hyo (W : World) (x : Value) (t : TypeId) : ∀ (q : Nat) (u : Value), [x][q]? = some u → (W.alloc (.cells #[x] t)).cell? ⟨W.heap.size, q, none⟩ = some u := by
  intro q u hq
  match q, hq with
  | 0, hq => cases hq; go_simp
def flL (T : List Int) (l : Int) : Int := if l % 2 = 1 then notL T[ndL l]! else T[ndL l]!
def flN (T : List Int) (p : Int × Int) : Int × Int := (flL T p.1, flL T p.2)
def flR (T : List Int) (r : Rg) : Rg := ⟨r.nm, flL T r.nx, r.it⟩
set_option maxRecDepth 100000 in
set_option maxHeartbeats 2000000 in
theorem follow_any (T : List Int) (v : Value) (l : Int) (h0 : 0 ≤ l) (hl : ndL l < T.length) (w : World) (hR : RowOf 1 encI T v w) : Calls Try.prog 110 #[v, .int .i64 l] w fun e w' => e = .returned (.int .i64 (flL T l)) ∧ Below w.heap.size w w' := by
  obtain ⟨ad, cp, rfl, hcp, R⟩ := hR.open'
  obtain ⟨bb, oo, hdd, hcell⟩ := R.pick (by omega)
  subst hdd
  have c0 := hcell (ndL l) hl 0 _ rfl
  simp only [Nat.mul_one, Nat.add_zero] at c0
  have hlt := World.block_lt_of_cell? w _ c0
  rw [show ndL l = (l / 2).toNat from rfl] at c0
  clear hcell R hR
  have m1 : 0 ≤ l / 2 := by omega
  have m2 : l / 2 < (T.length : Int) := by unfold ndL at hl; omega
  have N1 := Lib.hid (fun W => show Calls Try.prog 17 #[.int .i64 l] W fun e w' => e = .returned (.int .i64 (l / 2)) ∧ Below W.heap.size W w' by have := node_any l W; rwa [show nodeL l = l / 2 from if_pos h0] at this)
  have N2 := Lib.hid (fun W => inv_any l W)
  have HL : Hid (flL T l = if l % 2 = 1 then notL T[(l / 2).toNat]! else T[(l / 2).toNat]!) := Lib.hid rfl
  generalize T[(l / 2).toNat]! = b at c0 HL
  have N3 := Lib.hid (fun W => not_any b W)
  go_enter Try.func110, Try.ntmps110
  by_cases hi : l % 2 = 1
  · have hv : invL l = true := by unfold invL; rw [decide_eq_true h0, decide_eq_true hi]; rfl
    rw [hv] at N2
    rw [if_pos hi] at HL
    clear hv hi hl
    go_wp2_with (first | (go_at_call 18; refine (N2.out _).mono ?_; rintro ee w1 ⟨rfl, hb1⟩; have c1 := (hb1.cell (p := ⟨bb, oo + (l / 2).toNat, none⟩) hlt).trans c0; have hlt1 := World.block_lt_of_cell? w1 _ c1) | (go_at_call 17; refine (N1.out _).mono ?_; rintro ee w2 ⟨rfl, hb2⟩; have c2 := (hb2.cell (p := ⟨bb, oo + (l / 2).toNat, none⟩) hlt1).trans c1) | (go_at_call 19; refine (N3.out _).mono ?_; rintro ee w3 ⟨rfl, hb3⟩))
    go_ret
    exact ⟨by rw [HL.out]; rfl, (hb1.trans (hb2.mono hb1.size)).trans (hb3.mono (Nat.le_trans hb1.size hb2.size))⟩
  · have hv : invL l = false := by unfold invL; rw [decide_eq_false hi, Bool.and_false]
    rw [hv] at N2
    rw [if_neg hi] at HL
    clear hv hi hl N3
    go_wp2_with (first | (go_at_call 18; refine (N2.out _).mono ?_; rintro ee w1 ⟨rfl, hb1⟩; have c1 := (hb1.cell (p := ⟨bb, oo + (l / 2).toNat, none⟩) hlt).trans c0; have hlt1 := World.block_lt_of_cell? w1 _ c1) | (go_at_call 17; refine (N1.out _).mono ?_; rintro ee w2 ⟨rfl, hb2⟩; have c2 := (hb2.cell (p := ⟨bb, oo + (l / 2).toNat, none⟩) hlt1).trans c1))
    go_ret
    exact ⟨by rw [HL.out]; rfl, hb1.trans (hb2.mono hb1.size)⟩
set_option maxRecDepth 100000 in
set_option maxHeartbeats 2000000 in
theorem moved_any (T : List Int) (v : Value) (p : Int × Int) (h1 : 0 ≤ p.1 ∧ ndL p.1 < T.length) (h2 : 0 ≤ p.2 ∧ ndL p.2 < T.length) (w : World) (hR : RowOf 1 encI T v w) : Calls Try.prog 94 #[.agg #[.int .i64 p.1, .int .i64 p.2], v] w fun e w' => e = .returned (.agg #[.int .i64 (flN T p).1, .int .i64 (flN T p).2]) ∧ Below w.heap.size w w' := by
  obtain ⟨p1, p2⟩ := p
  simp only at h1 h2
  show Calls Try.prog 94 #[.agg #[.int .i64 p1, .int .i64 p2], v] w fun e w' => e = .returned (.agg #[.int .i64 (flL T p1), .int .i64 (flL T p2)]) ∧ Below w.heap.size w w'
  have HR := Lib.hid (fun W (hb : Below w.heap.size w W) => hR.below hb)
  go_enter Try.func94, Try.ntmps94
  go_upto_region 1 with fail
  have bel := ((Below.refl w.heap.size w).alloc (Nat.le_refl _) (.cells #[.int .i64 p1, .int .i64 p2] 110)).alloc (by simp) (.cells #[.int .i64 0, .int .i64 0] 110)
  have X := (Arr.allocV w [.int .i64 p1, .int .i64 p2] 110).below ((Below.refl _ _).alloc (Nat.le_refl _) (.cells #[.int .i64 0, .int .i64 0] 110))
  have Y : Arr 110 gV (w.heap.size + 1) [.int .i64 0, .int .i64 0] ((w.alloc (.cells #[.int .i64 p1, .int .i64 p2] 110)).alloc (.cells #[.int .i64 0, .int .i64 0] 110)) := by
    have := Arr.allocV (w.alloc (.cells #[.int .i64 p1, .int .i64 p2] 110)) [.int .i64 0, .int .i64 0] 110
    rwa [show (w.alloc (.cells #[.int .i64 p1, .int .i64 p2] 110)).heap.size = w.heap.size + 1 by simp] at this
  rw [show (w.alloc (.cells [Value.int IntKind.i64 p1, Value.int IntKind.i64 p2].toArray 110)).alloc (.cells #[.int .i64 0, .int .i64 0] 110) = (w.alloc (.cells #[.int .i64 p1, .int .i64 p2] 110)).alloc (.cells #[.int .i64 0, .int .i64 0] 110) from rfl] at X
  generalize (w.alloc (.cells #[.int .i64 p1, .int .i64 p2] 110)).alloc (.cells #[.int .i64 0, .int .i64 0] 110) = W0 at bel X Y ⊢
  have hsz := bel.size
  have C1 := Lib.hid (fun W (hb : Below w.heap.size w W) => follow_any T v p1 h1.1 h1.2 W (HR.out W hb))
  have C2 := Lib.hid (fun W (hb : Below w.heap.size w W) => follow_any T v p2 h2.1 h2.2 W (HR.out W hb))
  have HB := Lib.hid (fun d os => bel.trans ((below_regrown W0 d os).mono bel.size))
  have HBR := Lib.hid (fun d os => below_regrown W0 d os)
  have g0 := cell_regrown (X.cell (j := 0) (by simp))
  have g1 := cell_regrown (X.cell (j := 1) (by simp))
  simp only [List.getElem!_cons_zero, List.getElem!_cons_succ, gV] at g0 g1
  generalize hq1 : flL T p1 = y1 at C1
  generalize hq2 : flL T p2 = y2 at C2
  have HQ1 := Lib.hid hq1
  have HQ2 := Lib.hid hq2
  clear hq1 hq2
  refine wp_region_rel 9 (by kernel_rfl) (by kernel_rfl) ?_
  simp only [List.take_succ_cons, List.take_zero, List.drop_succ_cons, List.drop_zero]
  (refine rel_fix0 (fun K hK => ?_); go_simp; refine hK _ ?_; clear hK K)
  (refine rel_fix0 (fun K hK => ?_); go_simp; refine hK _ ?_; clear hK K)
  (refine rel_fix0 (fun K hK => ?_); go_simp; refine hK _ ?_; clear hK K)
  (refine rel_fix0 (fun K hK => ?_); go_simp; apply Exists.intro; refine ⟨fun _ _ => ?_, hK _ ?_⟩; (with_reducible exact ret_fix (C1.out _ (HB.out _ _))); clear hK K)
  (refine rel_fix0 (fun K hK => ?_); go_simp; refine hK _ ?_; clear hK K)
  (refine rel_fix0 (fun K hK => ?_); go_simp; refine hK _ ?_; clear hK K)
  (refine rel_fix0 (fun K hK => ?_); go_simp; refine hK _ ?_; clear hK K)
  (refine rel_fix0 (fun K hK => ?_); go_simp; apply Exists.intro; refine ⟨fun _ _ => ?_, hK _ ?_⟩; (with_reducible exact ret_fix (C2.out _ (HB.out _ _))); clear hK K)
  (refine rel_fix0 (fun K hK => ?_); go_simp; refine hK _ ?_; clear hK K)
  refine rel_nil ?_
  intro d os
  simp only [relAll]
  have B2 := HB.out d os
  have Y2 := Y.below (HBR.out d os)
  clear g0 g1 HB HBR C1 C2 X Y bel
  generalize grow (redrawn W0 d) os = W2 at B2 Y2 ⊢
  have f0 := Y2.free 0
  have f1 := Y2.free 1
  have z0 := Y2.cell (j := 0) (by simp)
  have z1 := Y2.cell (j := 1) (by simp)
  have HY := Lib.hid ((Y2.set 0 (.int .i64 y1)).set 1 (.int .i64 y2))
  have HBF := Lib.hid ((B2.setCell (p := ⟨w.heap.size + 1, 0, none⟩) (Nat.le_succ _) (.int .i64 y1)).setCell (p := ⟨w.heap.size + 1, 1, none⟩) (Nat.le_succ _) (.int .i64 y2))
  have hlk := Y2.lt
  clear Y2 B2
  go_wp2_with fail
  have BF := HBF.out
  have YF := HY.out
  clear HBF HY z0 z1 f0 f1
  simp only [gV] at YF
  generalize (W2.setCell ⟨w.heap.size + 1, 0, none⟩ (.int .i64 y1)).setCell ⟨w.heap.size + 1, 1, none⟩ (.int .i64 y2) = WF at BF YF ⊢
  have z0 := YF.cell (j := 0) (by simp)
  have z1 := YF.cell (j := 1) (by simp)
  simp at z0 z1
  exact bodyPost_ret (v := .agg #[.int .i64 y1, .int .i64 y2]) (by simp [results, Try.results94, go_sem, z0, z1]) rfl ⟨by rw [HQ1.out, HQ2.out], BF⟩
def keptL (n : Nat) : List Int := (List.range n).map fun i : Nat => 2 * (i : Int)
theorem keptL_succ (n : Nat) : keptL (n + 1) = keptL n ++ [2 * (n : Int)] := by unfold keptL; rw [List.range_succ, List.map_append]; rfl
set_option maxRecDepth 100000 in
set_option maxHeartbeats 2000000 in
theorem kept_any (n : Nat) (hn : n ≤ 100000) (w : World) : Calls Try.prog 93 #[.int .i64 (n : Int)] w fun e w' => ∃ u, e = .returned u ∧ OwnK w.heap.size 22 1 encI w' u (keptL n) ∧ Below w.heap.size w w' := by
  have O0 : OwnK w.heap.size 22 1 encI w (.slice none 0 0) [] := OwnK.nil _ _ _ _ _
  obtain ⟨i0, ihi, ihz, ihs, ihb⟩ := infoCI_parts
  go_enter Try.func93, Try.ntmps93
  go_upto_block 0 with fail
  go_wp2_with fail
  go_loopw [3, 6] (fun u i wr => ∃ j : Nat, j ≤ n ∧ i = .int .i64 (j : Int) ∧ Hid (OwnK w.heap.size 22 1 encI wr u (keptL j)) ∧ Hid (Below w.heap.size w wr)) (fun _ i _ => n - (intOf i).toNat)
  case atStart => exact ⟨0, Nat.zero_le _, rfl, Lib.hid O0, Lib.hid (Below.refl _ _)⟩
  case round =>
    clear O0
    obtain ⟨j, hj, rfl, hO, hB⟩ := hrel
    rename World => WR
    have hj0 : (0 : Int) ≤ (j : Int) := by omega
    by_cases hlt : j < n
    · have hji : (j : Int) < (n : Int) := by omega
      have HT := Lib.hid (keptL_succ j)
      have HL : (keptL j).length ≤ 8000000000 := by simp [keptL]; omega
      obtain ⟨ad, cp, hv⟩ := hO.out.slice
      subst hv
      generalize keptL j = L at HT HL hO
      have N1 := Lib.hid (literal_ok (j : Int) WR (by omega))
      have O1 := hO.out
      have B1 := hB.out
      have hs1 := B1.size
      clear hO hB
      go_wp2_with (first | (go_at_call 71; refine N1.out.mono ?_; rintro ee w2 ⟨rfl, hb2⟩; have hs2 := Nat.le_trans hs1 hb2.size; have O4 := (O1.below hb2).below ((Below.refl _ w2).alloc (Nat.le_refl _) (.cells #[.int .i64 (2 * (j : Int))] 22)); have B4 := (B1.trans (hb2.mono hs1)).alloc hs2 (.cells #[.int .i64 (2 * (j : Int))] 22); have hy := hyo w2 (.int .i64 (2 * (j : Int))) 22) | (at_builtin; refine wpList_append_one (enc := encI) (k := 1) (fun _ => rfl) (by decide) (fun x u hu => by simp at hu; rcases hu with rfl; rfl) rfl _ _ 26 rfl (w.heap.size) 22 i0 (.int .i64 0) 8 Try.underlying26 ihi ihz ihs ihb (by decide) _ L rfl O4 w2.heap.size 1 (2 * (j : Int)) rfl hy (show L.length + 1 ≤ maxLen by unfold maxLen; omega) (show (L.length + 1) * 8 ≤ 140737488355328 by omega) (by first | omega | (simp; omega)) ?_))
      intro v5 w5 O5 hb5 hg5
      have HO5 := Lib.hid O5
      have HB5 := Lib.hid (B4.trans hb5)
      clear O5 hb5 hg5 O4 hy O1 B1 B4 hb2
      go_wp2_with fail
      go_roundw
      case rel => exact ⟨j + 1, by omega, by go_num, (by rw [HT.out]; exact HO5), HB5⟩
      all_goals first | done | (simp [intOf]; done) | (simp [intOf]; omega)
    · have hji : ¬ (j : Int) < (n : Int) := by omega
      have HO := Lib.hid hO.out
      rw [show j = n by omega] at HO
      have HB := Lib.hid hB.out
      clear hO hB
      go_wp2_with fail
      go_ret
      exact ⟨_, rfl, HO.out, HB.out⟩
end Go.Proofs.Ytbphhcjepeamcaa
namespace Go.Proofs.Ytbphhcjepeamcaa
open Go Go.RowKit Go.Sort
set_option linter.unusedVariables false
/-- a row of which the first ones are changed -/
def mixL {α : Type} (f : α → α) (l : List α) (j : Nat) : List α := (l.take j).map f ++ l.drop j
theorem mix_zero {α : Type} (f : α → α) (l : List α) : mixL f l 0 = l := by simp [mixL]
theorem mix_all {α : Type} (f : α → α) (l : List α) : mixL f l l.length = l.map f := by simp [mixL]
theorem mix_len {α : Type} (f : α → α) (l : List α) (j : Nat) (h : j ≤ l.length) : (mixL f l j).length = l.length := by simp [mixL]; omega
theorem mid_set {α : Type} (A R : List α) (y x : α) (j : Nat) (h : A.length = j) : (A ++ y :: R).set j x = A ++ x :: R := by
  subst h; simp
theorem drop_cons {α : Type} [Inhabited α] (l : List α) {j : Nat} (h : j < l.length) : l.drop j = l[j]! :: l.drop (j + 1) := by
  rw [getElem!_pos l j h]; exact List.drop_eq_getElem_cons h
theorem mix_set {α : Type} [Inhabited α] (f : α → α) (l : List α) (j : Nat) (h : j < l.length) : (mixL f l j).set j (f l[j]!) = mixL f l (j + 1) := by
  unfold mixL
  rw [drop_cons l h, mid_set _ _ _ _ _ (by simp; omega), tk1 l h, List.map_append]
  simp
theorem mix_get {α : Type} [Inhabited α] (f : α → α) (l : List α) (j : Nat) (h : j < l.length) : (mixL f l j)[j]! = l[j]! := by
  unfold mixL
  rw [drop_cons l h]
  have hl : ((l.take j).map f).length = j := by simp; omega
  generalize (l.take j).map f = A at hl
  subst hl
  rw [getElem!_pos _ _ (by simp)]
  simp
theorem OwnK.num {B : Nat} {t : TypeId} {k : Nat} {α : Type} {enc : α → List Value} {w : World} {ad : Option Addr} {n cp : Nat} {l : List α} (h : OwnK B t k enc w (.slice ad n cp) l) : n = l.length := by
  rcases h.2 with ⟨h1, h0⟩ | ⟨g, cap, cur, hv, _⟩
  · cases h1; exact h0.symm
  · cases hv; rfl
theorem OwnK.at {B : Nat} {t : TypeId} {k : Nat} {α : Type} {enc : α → List Value} {w : World} {ad : Option Addr} {n cp : Nat} {l : List α} (h : OwnK B t k enc w (.slice ad n cp) l) (hn : 0 < n) : ∃ b, ad = some ⟨b, 0, none⟩ ∧ B ≤ b ∧ b < w.heap.size := by
  have hnn := h.num
  obtain ⟨b, cp2, hv⟩ := h.lies (by omega)
  cases hv
  have := World.ownsRow.lt h b rfl
  exact ⟨b, rfl, this.1, this.2⟩
theorem OwnK.cellK {B : Nat} {t : TypeId} {k : Nat} {α : Type} [Inhabited α] {enc : α → List Value} (hk : ∀ x, (enc x).length = k) {w : World} {b n cp : Nat} {l : List α} (h : OwnK B t k enc w (.slice (some ⟨b, 0, none⟩) n cp) l) {j c : Nat} {x : Value} (hj : j < l.length) (hx : (enc l[j]!)[c]? = some x) : w.cell? ⟨b, j * k + c, none⟩ = some x := by
  have hn := h.num
  subst hn
  have hck : c < k := by rw [← hk l[j]!]; exact (List.getElem?_eq_some_iff.1 hx).1
  have hjk : j * k + c < l.length * k := by
    have : (j + 1) * k ≤ l.length * k := Nat.mul_le_mul_right k hj
    rw [Nat.add_mul] at this; omega
  have := World.ownsRow.cellAt h (j * k + c) hjk
  rw [flat_get hk l j c hj hck, hx] at this
  exact this
theorem OwnK.free {B : Nat} {t : TypeId} {k : Nat} {α : Type} {enc : α → List Value} {w : World} {b n cp : Nat} {l : List α} (h : OwnK B t k enc w (.slice (some ⟨b, 0, none⟩) n cp) l) (j : Nat) : w.frozen? ⟨b, j, none⟩ = false := by
  have hn := h.num
  subst hn
  exact World.ownsRow.frozenAt h j
theorem OwnK.put1 {B : Nat} {t : TypeId} {α : Type} {f : α → Value} {w : World} {b n cp : Nat} {l : List α} (h : OwnK B t 1 (fun x => [f x]) w (.slice (some ⟨b, 0, none⟩) n cp) l) (j : Nat) (x : α) : OwnK B t 1 (fun x => [f x]) (w.setCell ⟨b, j, none⟩ (f x)) (.slice (some ⟨b, 0, none⟩) n cp) (l.set j x) := by
  have hn := h.num
  subst hn
  have := (World.ownsRow.stored h j (f x)).1
  unfold OwnK
  rw [flat_one, List.length_set]
  rw [flat_one] at this
  rwa [List.map_set] 
theorem flat_set : ∀ (l : List Rg) (j : Nat) (y : Int), j < l.length → (l.flatMap encR).set (j * 3 + 1) (.int .i64 y) = (l.set j ⟨l[j]!.nm, y, l[j]!.it⟩).flatMap encR
  | [], j, _, h => by simp at h
  | r :: l, 0, y, _ => by simp
  | r :: l, j + 1, y, h => by
    rw [List.flatMap_cons, show (j + 1) * 3 + 1 = (encR r).length + (j * 3 + 1) by show _ = 3 + _; omega, List.set_append_right _ _ (Nat.le_add_right _ _), Nat.add_sub_cancel_left, flat_set l j y (by simpa using h)]
    simp
theorem OwnK.putR {B : Nat} {t : TypeId} {w : World} {b n cp : Nat} {l : List Rg} (h : OwnK B t 3 encR w (.slice (some ⟨b, 0, none⟩) n cp) l) (j : Nat) (y : Int) (hj : j < l.length) : OwnK B t 3 encR (w.setCell ⟨b, j * 3 + 1, none⟩ (.int .i64 y)) (.slice (some ⟨b, 0, none⟩) n cp) (l.set j ⟨l[j]!.nm, y, l[j]!.it⟩) := by
  have hn := h.num
  subst hn
  have := (World.ownsRow.stored h (j * 3 + 1) (.int .i64 y)).1
  rw [flat_set l j y hj] at this
  unfold OwnK
  rwa [List.length_set]
/-- another row stays -/
theorem OwnK.other {B B2 : Nat} {t t2 : TypeId} {k k2 : Nat} {α β : Type} {enc : α → List Value} {enc2 : β → List Value} {w : World} {v : Value} {l : List α} {b n cp : Nat} {l2 : List β} (h : OwnK B t k enc w v l) (h2 : OwnK B2 t2 k2 enc2 w (.slice (some ⟨b, 0, none⟩) n cp) l2) (ht : t ≠ t2) (j : Nat) (u : Value) : OwnK B t k enc (w.setCell ⟨b, j, none⟩ u) v l :=
  World.ownsRow.kept h (grown_put w ⟨b, j, none⟩ u) (OwnK.tags h h2 ht)
def reG (g : Gr) (ands : List (Int × Int)) (T : List Int) : Gr := ⟨g.ins, g.outN, g.regs.map (flR T), ands, g.outs.map (flL T)⟩
/-- the rows of the new graph -/
structure RwK (B : Nat) (g : Gr) (T : List Int) (k i j : Nat) (va v0 v1 v2 v4 : Value) (w : World) : Prop where
  box : BG k v0 v1 v2 va v4 w
  ins : OwnK B 9 1 encT w v0 g.ins
  outN : OwnK B 9 1 encT w v1 g.outN
  regs : OwnK B 89 3 encR w v2 (mixL (flR T) g.regs j)
  outs : OwnK B 22 1 encI w v4 (mixL (flL T) g.outs i)
theorem RwK.below {B : Nat} {g : Gr} {T : List Int} {k i j : Nat} {va v0 v1 v2 v4 : Value} {w w' : World} (h : RwK B g T k i j va v0 v1 v2 v4 w) (hb : Below w.heap.size w w') : RwK B g T k i j va v0 v1 v2 v4 w' :=
  ⟨Arr.below h.box hb, h.ins.below hb, h.outN.below hb, h.regs.below hb, h.outs.below hb⟩
theorem RwK.putO {B : Nat} {g : Gr} {T : List Int} {k i j : Nat} {va v0 v1 v2 : Value} {b n cp : Nat} {w : World} (h : RwK B g T k i j va v0 v1 v2 (.slice (some ⟨b, 0, none⟩) n cp) w) (hi : i < g.outs.length) (hkb : k ≠ b) : RwK B g T k (i + 1) j va v0 v1 v2 (.slice (some ⟨b, 0, none⟩) n cp) (w.setCell ⟨b, i, none⟩ (.int .i64 (flL T g.outs[i]!))) :=
  ⟨Arr.other h.box hkb, h.ins.other h.outs (by decide) i _, h.outN.other h.outs (by decide) i _, h.regs.other h.outs (by decide) i _, by
    have := OwnK.put1 (f := fun n : Int => Value.int .i64 n) h.outs i (flL T g.outs[i]!)
    rwa [mix_set (flL T) g.outs i hi] at this⟩
theorem RwK.putG {B : Nat} {g : Gr} {T : List Int} {k i j : Nat} {va v0 v1 v4 : Value} {b n cp : Nat} {w : World} (h : RwK B g T k i j va v0 v1 (.slice (some ⟨b, 0, none⟩) n cp) v4 w) (hj : j < g.regs.length) (hkb : k ≠ b) : RwK B g T k i (j + 1) va v0 v1 (.slice (some ⟨b, 0, none⟩) n cp) v4 (w.setCell ⟨b, j * 3 + 1, none⟩ (.int .i64 (flL T g.regs[j]!.nx))) :=
  ⟨Arr.other h.box hkb, h.ins.other h.regs (by decide) _ _, h.outN.other h.regs (by decide) _ _, by
    have := OwnK.putR h.regs j (flL T g.regs[j]!.nx) (by rw [mix_len _ _ _ (by omega)]; exact hj)
    rw [mix_get _ _ _ hj] at this
    rwa [show (⟨g.regs[j]!.nm, flL T g.regs[j]!.nx, g.regs[j]!.it⟩ : Rg) = flR T g.regs[j]! from rfl, mix_set (flR T) g.regs j hj] at this, h.outs.other h.regs (by decide) _ _⟩
set_option maxRecDepth 100000 in
set_option maxHeartbeats 8000000 in
theorem rewired_any (g : Gr) (v : Value) (ands : List (Int × Int)) (aa : Option Addr) (an ac : Nat) (T : List Int) (vb : Value) (Ba : Nat) (sg : Small g) (hro : ∀ l ∈ g.outs, 0 ≤ l ∧ ndL l < T.length) (hrr : ∀ r ∈ g.regs, 0 ≤ r.nx ∧ ndL r.nx < T.length) (w : World) (hG : GO g v w) (hand : OwnK Ba 110 2 encN w (.slice aa an ac) ands) (hR : RowOf 1 encI T vb w) : Calls Try.prog 95 #[v, .slice aa an ac, vb] w fun e w' => ∃ u, e = .returned u ∧ GO (reG g ands T) u w' ∧ Below w.heap.size w w' := by
  have hG0 := hG
  obtain ⟨a, b, c, d0, e, a', b', c', d', e', rfl, hC, hA⟩ := hG.all
  clear hG
  have s3 := sg.regs
  have s5 := sg.outs
  go_enter Try.func95, Try.ntmps95
  go_upto_region 1 with fail
  have bel := ((Below.refl w.heap.size w).alloc (Nat.le_refl _) (.cells #[.slice a g.ins.length a', .slice b g.outN.length b', .slice c g.regs.length c', .slice d0 g.ands.length d', .slice e g.outs.length e'] 28)).alloc (by simp) (.cells #[.slice none 0 0, .slice none 0 0, .slice none 0 0, .slice none 0 0, .slice none 0 0] 28)
  have X : BG w.heap.size (.slice a g.ins.length a') (.slice b g.outN.length b') (.slice c g.regs.length c') (.slice d0 g.ands.length d') (.slice e g.outs.length e') ((w.alloc (.cells #[.slice a g.ins.length a', .slice b g.outN.length b', .slice c g.regs.length c', .slice d0 g.ands.length d', .slice e g.outs.length e'] 28)).alloc (.cells #[.slice none 0 0, .slice none 0 0, .slice none 0 0, .slice none 0 0, .slice none 0 0] 28)) := (Arr.allocV w [.slice a g.ins.length a', .slice b g.outN.length b', .slice c g.regs.length c', .slice d0 g.ands.length d', .slice e g.outs.length e'] 28).below ((Below.refl _ _).alloc (Nat.le_refl _) (.cells #[.slice none 0 0, .slice none 0 0, .slice none 0 0, .slice none 0 0, .slice none 0 0] 28))
  have Y : BG (w.heap.size + 1) (.slice none 0 0) (.slice none 0 0) (.slice none 0 0) (.slice none 0 0) (.slice none 0 0) ((w.alloc (.cells #[.slice a g.ins.length a', .slice b g.outN.length b', .slice c g.regs.length c', .slice d0 g.ands.length d', .slice e g.outs.length e'] 28)).alloc (.cells #[.slice none 0 0, .slice none 0 0, .slice none 0 0, .slice none 0 0, .slice none 0 0] 28)) := by
    have := Arr.allocV (w.alloc (.cells #[.slice a g.ins.length a', .slice b g.outN.length b', .slice c g.regs.length c', .slice d0 g.ands.length d', .slice e g.outs.length e'] 28)) [.slice none 0 0, .slice none 0 0, .slice none 0 0, .slice none 0 0, .slice none 0 0] 28
    rwa [show (w.alloc (.cells #[.slice a g.ins.length a', .slice b g.outN.length b', .slice c g.regs.length c', .slice d0 g.ands.length d', .slice e g.outs.length e'] 28)).heap.size = w.heap.size + 1 by simp] at this
  have hsz : w.heap.size + 1 < ((w.alloc (.cells #[.slice a g.ins.length a', .slice b g.outN.length b', .slice c g.regs.length c', .slice d0 g.ands.length d', .slice e g.outs.length e'] 28)).alloc (.cells #[.slice none 0 0, .slice none 0 0, .slice none 0 0, .slice none 0 0, .slice none 0 0] 28)).heap.size := by simp
  generalize (w.alloc (.cells #[.slice a g.ins.length a', .slice b g.outN.length b', .slice c g.regs.length c', .slice d0 g.ands.length d', .slice e g.outs.length e'] 28)).alloc (.cells #[.slice none 0 0, .slice none 0 0, .slice none 0 0, .slice none 0 0, .slice none 0 0] 28) = W0 at bel X Y hsz ⊢
  have HR := Lib.hid (fun W (hb : Below w.heap.size w W) => hR.below hb)
  have HAN := Lib.hid (fun W (hb : Below w.heap.size w W) => hand.below hb)
  have H1 := Lib.hid (copy_any g _ W0 sg (hG0.below bel))
  generalize hk : w.heap.size = k at X Y hsz bel H1 ⊢
  have HK := Lib.hid hk
  rw [hk] at HR HAN
  clear hk hA hC hG0
  obtain ⟨x0, x1, x2, x3, x4⟩ := id (BG.gx X)
  have lx := Arr.lt X
  go_upto_region 2 with (first | (go_at_call 33; refine H1.out.mono ?_; rintro ee W1 ⟨u, rfl, OG1, hb1⟩; obtain ⟨v0, v1, v2, v3, v4, rfl, o0, o1, o2, o3, o4⟩ := OG1.all; obtain ⟨a0, c0, rfl⟩ := o0.slice; obtain ⟨a1, c1, rfl⟩ := o1.slice; obtain ⟨a2, c2, rfl⟩ := o2.slice; obtain ⟨a3, c3, rfl⟩ := o3.slice; obtain ⟨a4, c4, rfl⟩ := o4.slice; have X1 := X.below hb1; have lx1 := Arr.lt X1; have f0 := Arr.free X1 0; have f1 := Arr.free X1 1; have f2 := Arr.free X1 2; have f3 := Arr.free X1 3; have f4 := Arr.free X1 4; obtain ⟨y0, y1, y2, y3, y4⟩ := id (BG.gx X1)))
  have Y1 := Y.below hb1
  have B1 := bel.trans (hb1.mono (by omega))
  have Z1 := BG.all X1 (.slice a0 g.ins.length c0) (.slice a1 g.outN.length c1) (.slice a2 g.regs.length c2) (.slice a3 g.ands.length c3) (.slice a4 g.outs.length c4)
  have B2 := put5_below B1 (.slice a0 g.ins.length c0) (.slice a1 g.outN.length c1) (.slice a2 g.regs.length c2) (.slice a3 g.ands.length c3) (.slice a4 g.outs.length c4)
  have hkb : k < W0.heap.size := by omega
  have p0 := o0.put5 k (.slice a0 g.ins.length c0) (.slice a1 g.outN.length c1) (.slice a2 g.regs.length c2) (.slice a3 g.ands.length c3) (.slice a4 g.outs.length c4) hkb
  have p1 := o1.put5 k (.slice a0 g.ins.length c0) (.slice a1 g.outN.length c1) (.slice a2 g.regs.length c2) (.slice a3 g.ands.length c3) (.slice a4 g.outs.length c4) hkb
  have p2 := o2.put5 k (.slice a0 g.ins.length c0) (.slice a1 g.outN.length c1) (.slice a2 g.regs.length c2) (.slice a3 g.ands.length c3) (.slice a4 g.outs.length c4) hkb
  have p4 := o4.put5 k (.slice a0 g.ins.length c0) (.slice a1 g.outN.length c1) (.slice a2 g.regs.length c2) (.slice a3 g.ands.length c3) (.slice a4 g.outs.length c4) hkb
  have Y2 : BG (k + 1) (.slice none 0 0) (.slice none 0 0) (.slice none 0 0) (.slice none 0 0) (.slice none 0 0) (put5 W1 k (.slice a0 g.ins.length c0) (.slice a1 g.outN.length c1) (.slice a2 g.regs.length c2) (.slice a3 g.ands.length c3) (.slice a4 g.outs.length c4)) := ((((Y1.other (by show k + 1 ≠ k; omega)).other (by show k + 1 ≠ k; omega)).other (by show k + 1 ≠ k; omega)).other (by show k + 1 ≠ k; omega)).other (by show k + 1 ≠ k; omega)
  unfold put5 at Z1 B2 p0 p1 p2 p4 Y2
  clear f0 f1 f2 f3 f4 y0 y1 y2 y3 y4 X1 Y1 B1 o0 o1 o2 o3 o4 OG1 x0 x1 x2 x3 x4 X Y lx lx1 bel hb1 H1
  generalize ((((W1.setCell ⟨k, 0, none⟩ (.slice a0 g.ins.length c0)).setCell ⟨k, 1, none⟩ (.slice a1 g.outN.length c1)).setCell ⟨k, 2, none⟩ (.slice a2 g.regs.length c2)).setCell ⟨k, 3, none⟩ (.slice a3 g.ands.length c3)).setCell ⟨k, 4, none⟩ (.slice a4 g.outs.length c4) = W2 at Z1 B2 p0 p1 p2 p4 Y2 ⊢
  have f3 := Arr.free Z1 3
  have lz := Arr.lt Z1
  obtain ⟨y0, y1, y2, y3, y4⟩ := id (BG.gx Z1)
  go_upto_region 3 with fail
  have Z3 := BG.set3 Z1 (.slice aa an ac)
  have B3 := B2.setCell (p := ⟨k, 3, none⟩) (Nat.le_refl _) (.slice aa an ac)
  have R3 : RwK W0.heap.size g T k 0 0 (.slice aa an ac) (.slice a0 g.ins.length c0) (.slice a1 g.outN.length c1) (.slice a2 g.regs.length c2) (.slice a4 g.outs.length c4) (W2.setCell ⟨k, 3, none⟩ (.slice aa an ac)) :=
    ⟨Z3, p0.set ⟨k, 3, none⟩ _ hkb, p1.set ⟨k, 3, none⟩ _ hkb, by rw [mix_zero]; exact p2.set ⟨k, 3, none⟩ _ hkb, by rw [mix_zero]; exact p4.set ⟨k, 3, none⟩ _ hkb⟩
  have Y3 : BG (k + 1) (.slice none 0 0) (.slice none 0 0) (.slice none 0 0) (.slice none 0 0) (.slice none 0 0) (W2.setCell ⟨k, 3, none⟩ (.slice aa an ac)) := Y2.other (by show k + 1 ≠ k; omega)
  clear f3 lz y0 y1 y2 y3 y4 Z1 B2 p0 p1 p2 p4 Y2 Z3
  generalize W2.setCell ⟨k, 3, none⟩ (.slice aa an ac) = W3 at R3 B3 Y3 ⊢
  have hk1 : k + 1 < W3.heap.size := Arr.lt Y3
  have HY3 := Lib.hid Y3
  have HR3 := Lib.hid R3
  have HB3 := Lib.hid B3
  clear Y3 R3 B3
  obtain ⟨y0, y1, y2, y3, y4⟩ := id (BG.gx HR3.out.box)
  have ly := Arr.lt HR3.out.box
  go_upto_block 0 with fail
  clear y0 y1 y2 y3 y4 ly
  go_wp2_with fail
  go_loopw [18] (fun i wr => ∃ j : Nat, j ≤ g.outs.length ∧ i = .int .i64 (j : Int) ∧ Hid (RwK W0.heap.size g T k j 0 (.slice aa an ac) (.slice a0 g.ins.length c0) (.slice a1 g.outN.length c1) (.slice a2 g.regs.length c2) (.slice a4 g.outs.length c4) wr) ∧ Hid (BG (k + 1) (.slice none 0 0) (.slice none 0 0) (.slice none 0 0) (.slice none 0 0) (.slice none 0 0) wr) ∧ Hid (Below k w wr)) (fun i _ => g.outs.length - (intOf i).toNat)
  case atStart => exact ⟨0, Nat.zero_le _, rfl, HR3, HY3, HB3⟩
  case round =>
    clear HR3 HY3 HB3 hk1
    obtain ⟨j, hj, rfl, hK, hY, hB⟩ := hrel
    rename World => WR
    have hj0 : (0 : Int) ≤ (j : Int) := by omega
    by_cases hlt : j < g.outs.length
    · have hji : (j : Int) < (g.outs.length : Int) := by omega
      obtain ⟨b4, hb4, hle4, hlt4⟩ := hK.out.outs.at (by omega)
      subst hb4
      have d4 : WR.cell? ⟨b4, j, none⟩ = some (.int .i64 g.outs[j]!) := by
        have := OwnK.cellK lenI hK.out.outs (j := j) (c := 0) (x := .int .i64 g.outs[j]!) (by rw [mix_len _ _ _ hj]; exact hlt) (by rw [mix_get _ _ _ hlt]; rfl)
        simpa using this
      have HP := Lib.hid (fun (W : World) (h : RwK W0.heap.size g T k j 0 (.slice aa an ac) (.slice a0 g.ins.length c0) (.slice a1 g.outN.length c1) (.slice a2 g.regs.length c2) (.slice (some ⟨b4, 0, none⟩) g.outs.length c4) W) => h.putO hlt (by omega))
      have hlo := hro _ (mem1 g.outs hlt)
      have HF := Lib.hid (fun W (hb : Below k w W) => follow_any T vb g.outs[j]! hlo.1 hlo.2 W (HR.out W hb))
      have KK := hK.out
      have YY := hY.out
      have BB := hB.out
      clear hlo hK hY hB
      generalize flL T g.outs[j]! = y at HF HP
      generalize g.outs[j]! = x at d4 HF
      obtain ⟨y0, y1, y2, y3, y4⟩ := id (BG.gx KK.box)
      have ly := Arr.lt KK.box
      have HBR := Lib.hid (fun d os => below_regrown WR d os)
      have HBW := Lib.hid (fun d os => BB.trans ((below_regrown WR d os).mono (by have := Arr.lt YY; omega)))
      go_upto_region 6 with fail
      have g4 := cell_regrown y4
      clear d4 y0 y1 y2 y3 y4 ly
      refine wp_region_rel 6 (by kernel_rfl) (by kernel_rfl) ?_
      simp only [List.take_succ_cons, List.take_zero, List.drop_succ_cons, List.drop_zero]
      (refine rel_fix0 (fun K hK => ?_); go_simp; refine hK _ ?_; clear hK K)
      (refine rel_fix0 (fun K hK => ?_); go_simp; refine hK _ ?_; clear hK K)
      (refine rel_fix0 (fun K hK => ?_); go_simp; refine hK _ ?_; clear hK K)
      (refine rel_fix0 (fun K hK => ?_); go_simp; refine hK _ ?_; clear hK K)
      (refine rel_fix0 (fun K hK => ?_); go_simp; refine hK _ ?_; clear hK K)
      (refine rel_fix0 (fun K hK => ?_); go_simp; apply Exists.intro; refine ⟨fun _ _ => ?_, hK _ ?_⟩; (with_reducible exact ret_fix (HF.out _ (HBW.out _ _))); clear hK K)
      refine rel_nil ?_
      intro d os
      simp only [relAll]
      have hbr := HBR.out d os
      have KK2 := KK.below hbr
      have YY2 := YY.below hbr
      have BB2 := HBW.out d os
      clear g4 HBR HBW KK YY BB hbr
      generalize grow (redrawn WR d) os = WS at KK2 YY2 BB2 ⊢
      have e1 := OwnK.free KK2.outs j
      have e2 : WS.cell? ⟨b4, j, none⟩ = some (.int .i64 g.outs[j]!) := by
        have := OwnK.cellK lenI KK2.outs (j := j) (c := 0) (x := .int .i64 g.outs[j]!) (by rw [mix_len _ _ _ hj]; exact hlt) (by rw [mix_get _ _ _ hlt]; rfl)
        simpa using this
      have e3 := (World.ownsRow.lt KK2.outs b4 rfl).2
      have HK9 := Lib.hid (HP.out _ KK2)
      have HY9 := Lib.hid (Arr.other YY2 (p := ⟨b4, j, none⟩) (v := .int .i64 y) (by show k + 1 ≠ b4; omega))
      have HB9 := Lib.hid (BB2.setCell (p := ⟨b4, j, none⟩) (by show k ≤ b4; omega) (.int .i64 y))
      clear KK2 YY2 BB2
      go_wp2_with fail
      go_roundw
      case rel => exact ⟨j + 1, by omega, by go_num, HK9, HY9, HB9⟩
      all_goals first | done | (simp [intOf]; done) | (simp [intOf]; omega)
    · have hji : ¬ (j : Int) < (g.outs.length : Int) := by omega
      have KK := hK.out
      rw [show j = g.outs.length by omega] at KK
      have YY := hY.out
      have BB := hB.out
      clear hK hY hB
      obtain ⟨y0, y1, y2, y3, y4⟩ := id (BG.gx KK.box)
      have ly := Arr.lt KK.box
      go_upto_block 2 with fail
      clear y0 y1 y2 y3 y4 ly
      have HK2 := Lib.hid KK
      have HY2 := Lib.hid YY
      have HB2 := Lib.hid BB
      clear KK YY BB
      go_wp2_with fail
      go_loopw [34] (fun i wr => ∃ j2 : Nat, j2 ≤ g.regs.length ∧ i = .int .i64 (j2 : Int) ∧ Hid (RwK W0.heap.size g T k g.outs.length j2 (.slice aa an ac) (.slice a0 g.ins.length c0) (.slice a1 g.outN.length c1) (.slice a2 g.regs.length c2) (.slice a4 g.outs.length c4) wr) ∧ Hid (BG (k + 1) (.slice none 0 0) (.slice none 0 0) (.slice none 0 0) (.slice none 0 0) (.slice none 0 0) wr) ∧ Hid (Below k w wr)) (fun i _ => g.regs.length - (intOf i).toNat)
      case atStart => exact ⟨0, Nat.zero_le _, rfl, HK2, HY2, HB2⟩
      case round =>
        clear HK2 HY2 HB2
        obtain ⟨j2, hj2, rfl, hK, hY, hB⟩ := hrel
        rename World => WQ
        have hj20 : (0 : Int) ≤ (j2 : Int) := by omega
        by_cases hlt2 : j2 < g.regs.length
        · have hji2 : (j2 : Int) < (g.regs.length : Int) := by omega
          obtain ⟨b2, hb2, hle2, hlt22⟩ := hK.out.regs.at (by omega)
          subst hb2
          have hml : j2 < (mixL (flR T) g.regs j2).length := by rw [mix_len _ _ _ hj2]; exact hlt2
          have hmg := mix_get (flR T) g.regs j2 hlt2
          have d0 := OwnK.cellK lenR hK.out.regs (j := j2) (c := 0) (x := .string g.regs[j2]!.nm) hml (by rw [hmg]; rfl)
          have d1 := OwnK.cellK lenR hK.out.regs (j := j2) (c := 1) (x := .int .i64 g.regs[j2]!.nx) hml (by rw [hmg]; rfl)
          have d2 := OwnK.cellK lenR hK.out.regs (j := j2) (c := 2) (x := .bool g.regs[j2]!.it) hml (by rw [hmg]; rfl)
          simp only [Nat.add_zero] at d0
          have HP := Lib.hid (fun (W : World) (h : RwK W0.heap.size g T k g.outs.length j2 (.slice aa an ac) (.slice a0 g.ins.length c0) (.slice a1 g.outN.length c1) (.slice (some ⟨b2, 0, none⟩) g.regs.length c2) (.slice a4 g.outs.length c4) W) => h.putG hlt2 (by omega))
          have hlo := hrr _ (mem1 g.regs hlt2)
          have HF := Lib.hid (fun W (hb : Below k w W) => follow_any T vb g.regs[j2]!.nx hlo.1 hlo.2 W (HR.out W hb))
          have HML := Lib.hid hml
          have KK := hK.out
          have YY := hY.out
          have BB := hB.out
          clear hlo hK hY hB hmg hml
          generalize flL T g.regs[j2]!.nx = y at HF HP
          generalize g.regs[j2]!.nm = r0 at d0
          generalize g.regs[j2]!.it = r2 at d2
          generalize g.regs[j2]!.nx = x at d1 HF
          go_upto_region 11 with fail
          have bA := (Below.refl WQ.heap.size WQ).alloc (Nat.le_refl _) (.cells #[.string r0, .int .i64 x, .bool r2] 89)
          have z1 : (WQ.alloc (.cells #[.string r0, .int .i64 x, .bool r2] 89)).cell? ⟨WQ.heap.size, 1, none⟩ = some (.int .i64 x) := by go_simp
          replace KK := KK.below bA
          replace YY := YY.below bA
          have hkk := Arr.lt YY
          replace BB := BB.trans (bA.mono (by omega))
          clear bA d0 d1 d2
          generalize WQ.alloc (.cells #[.string r0, .int .i64 x, .bool r2] 89) = WR at KK YY BB hkk z1 ⊢
          generalize WQ.heap.size = q10 at z1 ⊢
          obtain ⟨y0, y1, y2, y3, y4⟩ := id (BG.gx KK.box)
          have HBR := Lib.hid (fun d os => below_regrown WR d os)
          have HBW := Lib.hid (fun d os => BB.trans ((below_regrown WR d os).mono (by omega)))
          have g2 := cell_regrown y2
          have g5 := cell_regrown z1
          clear y0 y1 y2 y3 y4 z1
          refine wp_region_rel 7 (by kernel_rfl) (by kernel_rfl) ?_
          simp only [List.take_succ_cons, List.take_zero, List.drop_succ_cons, List.drop_zero]
          (refine rel_fix0 (fun K hK => ?_); go_simp; refine hK _ ?_; clear hK K)
          (refine rel_fix0 (fun K hK => ?_); go_simp; refine hK _ ?_; clear hK K)
          (refine rel_fix0 (fun K hK => ?_); go_simp; refine hK _ ?_; clear hK K)
          (refine rel_fix0 (fun K hK => ?_); go_simp; refine hK _ ?_; clear hK K)
          (refine rel_fix0 (fun K hK => ?_); go_simp; refine hK _ ?_; clear hK K)
          (refine rel_fix0 (fun K hK => ?_); go_simp; refine hK _ ?_; clear hK K)
          (refine rel_fix0 (fun K hK => ?_); go_simp; apply Exists.intro; refine ⟨fun _ _ => ?_, hK _ ?_⟩; (with_reducible exact ret_fix (HF.out _ (HBW.out _ _))); clear hK K)
          refine rel_nil ?_
          intro d os
          simp only [relAll]
          have hbr := HBR.out d os
          have KK2 := KK.below hbr
          have YY2 := YY.below hbr
          have BB2 := HBW.out d os
          clear g2 g5 HBR HBW KK YY BB hbr hkk
          generalize grow (redrawn WR d) os = WS at KK2 YY2 BB2 ⊢
          have e1 := OwnK.free KK2.regs (j2 * 3 + 1)
          have hmg := mix_get (flR T) g.regs j2 hlt2
          have e2 := OwnK.cellK lenR KK2.regs (j := j2) (c := 1) (x := .int .i64 g.regs[j2]!.nx) HML.out (by rw [hmg]; rfl)
          have e3 := (World.ownsRow.lt KK2.regs b2 rfl).2
          have HK9 := Lib.hid (HP.out _ KK2)
          have HY9 := Lib.hid (Arr.other YY2 (p := ⟨b2, j2 * 3 + 1, none⟩) (v := .int .i64 y) (by show k + 1 ≠ b2; omega))
          have HB9 := Lib.hid (BB2.setCell (p := ⟨b2, j2 * 3 + 1, none⟩) (by show k ≤ b2; omega) (.int .i64 y))
          clear KK2 YY2 BB2 hmg
          go_wp2_with fail
          go_roundw
          case rel => exact ⟨j2 + 1, by omega, by go_num, HK9, HY9, HB9⟩
          all_goals first | done | (simp [intOf]; done) | (simp [intOf]; omega)
        · have hji2 : ¬ (j2 : Int) < (g.regs.length : Int) := by omega
          have KK := hK.out
          rw [show j2 = g.regs.length by omega] at KK
          have YY := hY.out
          have BB := hB.out
          clear hK hY hB
          obtain ⟨y0, y1, y2, y3, y4⟩ := id (BG.gx KK.box)
          have ly := Arr.lt KK.box
          have f0 := Arr.free YY 0
          have f1 := Arr.free YY 1
          have f2 := Arr.free YY 2
          have f3 := Arr.free YY 3
          have f4 := Arr.free YY 4
          have lk := Arr.lt YY
          obtain ⟨z0, z1, z2, z3, z4⟩ := id (BG.gx YY)
          have hk1b : k + 1 < W0.heap.size := hsz
          have p0 := KK.ins.put5 (k + 1) (.slice a0 g.ins.length c0) (.slice a1 g.outN.length c1) (.slice a2 g.regs.length c2) (.slice aa an ac) (.slice a4 g.outs.length c4) hk1b
          have p1 := KK.outN.put5 (k + 1) (.slice a0 g.ins.length c0) (.slice a1 g.outN.length c1) (.slice a2 g.regs.length c2) (.slice aa an ac) (.slice a4 g.outs.length c4) hk1b
          have p2 := KK.regs.put5 (k + 1) (.slice a0 g.ins.length c0) (.slice a1 g.outN.length c1) (.slice a2 g.regs.length c2) (.slice aa an ac) (.slice a4 g.outs.length c4) hk1b
          have p4 := KK.outs.put5 (k + 1) (.slice a0 g.ins.length c0) (.slice a1 g.outN.length c1) (.slice a2 g.regs.length c2) (.slice aa an ac) (.slice a4 g.outs.length c4) hk1b
          have BF := b5_mono BB (Nat.le_succ k) (.slice a0 g.ins.length c0) (.slice a1 g.outN.length c1) (.slice a2 g.regs.length c2) (.slice aa an ac) (.slice a4 g.outs.length c4)
          have p3 := HAN.out _ BF
          have YF := BG.gx (BG.all YY (.slice a0 g.ins.length c0) (.slice a1 g.outN.length c1) (.slice a2 g.regs.length c2) (.slice aa an ac) (.slice a4 g.outs.length c4))
          rw [mix_all] at p2 p4
          have GOF : GO (reG g ands T) (.agg #[.slice a0 g.ins.length c0, .slice a1 g.outN.length c1, .slice a2 g.regs.length c2, .slice aa an ac, .slice a4 g.outs.length c4]) (put5 WQ (k + 1) (.slice a0 g.ins.length c0) (.slice a1 g.outN.length c1) (.slice a2 g.regs.length c2) (.slice aa an ac) (.slice a4 g.outs.length c4)) := by
            obtain ⟨s0, t0, e0, q0, m0, rr0⟩ := p0.rowC lenT
            obtain ⟨s1, t1, e1, q1, m1, rr1⟩ := p1.rowC lenT
            obtain ⟨s2, t2, e2, q2, m2, rr2⟩ := p2.rowC lenR
            obtain ⟨s3, t3, e3, q3, m3, rr3⟩ := p3.rowC lenN
            obtain ⟨s4, t4, e4, q4, m4, rr4⟩ := p4.rowC lenI
            injection e0 with u0 w0 x0
            subst u0 x0
            injection e1 with u1 w1 x1
            subst u1 x1
            injection e2 with u2 w2 x2
            subst u2 x2
            injection e3 with u3 w3 x3
            subst u3 x3
            injection e4 with u4 w4 x4
            subst u4 x4
            exact ⟨⟨_, _, _, _, _, _, _, _, _, _, (by rw [w3]; simp [reG]), ⟨q0, q1, q2, q3, q4, m0, m1, m2, m3, m4⟩, ⟨rr0, rr1, rr2, rr3, rr4⟩⟩⟩
          have HGO := Lib.hid GOF
          have HBF := Lib.hid BF
          have HYF := Lib.hid YF
          clear p0 p1 p2 p3 p4 GOF BF YF KK YY BB
          go_wp2_with fail
          have GOF := HGO.out
          have BF := HBF.out
          have YF := HYF.out
          unfold put5 at GOF BF YF
          clear HGO HBF HYF y0 y1 y2 y3 y4 f0 f1 f2 f3 f4 z0 z1 z2 z3 z4
          generalize ((((WQ.setCell ⟨k + 1, 0, none⟩ (.slice a0 g.ins.length c0)).setCell ⟨k + 1, 1, none⟩ (.slice a1 g.outN.length c1)).setCell ⟨k + 1, 2, none⟩ (.slice a2 g.regs.length c2)).setCell ⟨k + 1, 3, none⟩ (.slice aa an ac)).setCell ⟨k + 1, 4, none⟩ (.slice a4 g.outs.length c4) = WF at GOF BF YF ⊢
          obtain ⟨z0, z1, z2, z3, z4⟩ := YF
          exact bodyPost_ret (v := .agg #[.slice a0 g.ins.length c0, .slice a1 g.outN.length c1, .slice a2 g.regs.length c2, .slice aa an ac, .slice a4 g.outs.length c4]) (by simp [results, Try.results95, go_sem, z0, z1, z2, z3, z4]) rfl ⟨_, rfl, GOF, by rw [HK.out]; exact BF⟩
end Go.Proofs.Ytbphhcjepeamcaa
