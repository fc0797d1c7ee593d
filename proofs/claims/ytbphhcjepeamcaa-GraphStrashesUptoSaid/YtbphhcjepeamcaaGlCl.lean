/- The law on clean graphs: its walk. Asked: what is said here of Clean, and the fact. -/
import Derived.Test.YtbphhcjepeamcaaGlCz
import Derived.Test.YtbphhcjepeamcaaGlEq
import Derived.Test.YtbphhcjepeamcaaGlC
import Derived.Test.YtbphhcjepeamcaaGlNil
import Derived.Test.YtbphhcjepeamcaaGrHh
import Derived.Test.YtbphhcjepeamcaaEdge
namespace Go.Proofs.Ytbphhcjepeamcaa
open Go Go.RowKit Go.Sort
set_option linter.unusedVariables false
/-- a new graph of which nothing is written yet -/
def FZ (B : Nat) : Fa := fun v w => ∃ b, v = .pointer (some ⟨b, 0, none⟩) ∧ B ≤ b ∧ Arr 28 fV b zG w
theorem fz_sta (B : Nat) : Sta (FZ B) := fun v w w' ⟨b, h1, h0, h2⟩ hb => ⟨b, h1, h0, h2.below hb⟩
/-- a graph and a row of numbers -/
def FT (g : Gr) (l : List Int) : Fa := fun v w => ∃ u vp, v = .tuple #[u, vp] ∧ GO g u w ∧ RowOf 1 encI l vp w
theorem ft_sta (g : Gr) (l : List Int) : Sta (FT g l) := fun v w w' ⟨u, vp, h1, h2, h3⟩ hb => ⟨u, vp, h1, h2.below hb, h3.below hb⟩
theorem go_sta2 (g : Gr) : Sta (GO g) := fun v w w' h hb => h.below hb
theorem rowC_sta {α : Type} [Inhabited α] (f : α → Value) (l : List α) : Sta (RowC f l) := fun v w w' h hb => h.below hb
theorem Arr.rowC' {t : TypeId} {α : Type} [Inhabited α] {f : α → Value} {g : Nat} {l : List α} {w : World} (h : Arr t f g l w) (n : Nat) (hn : l.length = n) : RowC f l (.slice (some ⟨g, 0, none⟩) n n) w := by
  subst hn
  refine ⟨_, _, rfl, Nat.le_refl _, fun h => (by cases h), .inr ⟨g, 0, rfl, fun j hj c x hx => ?_⟩⟩
  match c, hx with
  | 0, hx =>
    simp only [List.getElem?_cons_zero, Option.some.injEq] at hx
    subst hx
    simpa using h.cell hj
  | c + 1, hx => simp at hx
abbrev AG (k : Nat) (v0 v1 v2 v3 v4 : Value) (w : World) : Prop := Arr 28 fV k [v0, v1, v2, v3, v4] w
theorem AG.gx {k : Nat} {v0 v1 v2 v3 v4 : Value} {w : World} (h : AG k v0 v1 v2 v3 v4 w) : GX k v0 v1 v2 v3 v4 w :=
  ⟨Arr.cell (j := 0) h (by simp), Arr.cell (j := 1) h (by simp), Arr.cell (j := 2) h (by simp), Arr.cell (j := 3) h (by simp), Arr.cell (j := 4) h (by simp)⟩
theorem AG.all {k : Nat} {v0 v1 v2 v3 v4 : Value} {w : World} (h : AG k v0 v1 v2 v3 v4 w) (u0 u1 u2 u3 u4 : Value) : AG k u0 u1 u2 u3 u4 (((((w.setCell ⟨k, 0, none⟩ u0).setCell ⟨k, 1, none⟩ u1).setCell ⟨k, 2, none⟩ u2).setCell ⟨k, 3, none⟩ u3).setCell ⟨k, 4, none⟩ u4) :=
  ((((Arr.set h 0 u0).set 1 u1).set 2 u2).set 3 u3).set 4 u4
theorem plG_len (g : Gr) (keep : List Bool) : (plG g keep).length = keep.length := plL_len _ _ _ _
theorem ren_small {g : Gr} {keep : List Bool} (vg : VG g) (sg : Small g) : Small (renG g keep) := by
  have n4 : g.outs.length ≤ 128 := by have := vg.same; have := vg.outN; omega
  have n2 := vg.regs
  have n3 := vg.ands
  refine ⟨sg.ins, sg.outN, ?_, ?_, ?_, sg.insT, sg.outT, ?_⟩
  · show (g.regs.map _).length ≤ _; rw [List.length_map]; omega
  · have := kL_len g keep (plG g keep) g.ands.length
    show (kL g keep (plG g keep) g.ands.length).length ≤ _; omega
  · show (g.outs.map _).length ≤ _; rw [List.length_map]; omega
  · intro x hx
    obtain ⟨y, hy, rfl⟩ := List.mem_map.1 hx
    exact sg.regT y hy
set_option maxRecDepth 100000 in
set_option maxHeartbeats 8000000 in
theorem cleans_law (hF : FactC) (hC0 : CleanC) (g : Gr) (v : Value) (sg : Small g) (w : World) (hG : GO g v w) : Calls Try.prog 12 #[v] w fun e w' => e = .returned (.bool true) ∧ Below w.heap.size w w' := by
  have hG0 := hG
  obtain ⟨a, b, c, d0, e, a', b', c', d', e', rfl, hC, hA⟩ := hG.all
  clear hG
  have HF := Lib.hid (fun W => hF W)
  clear hF
  go_enter Try.func12, Try.ntmps12
  go_upto_region 1 with fail
  have bel := (Below.refl w.heap.size w).alloc (Nat.le_refl _) (.cells #[.slice a g.ins.length a', .slice b g.outN.length b', .slice c g.regs.length c', .slice d0 g.ands.length d', .slice e g.outs.length e'] 28)
  have X := GX.new w (.slice a g.ins.length a') (.slice b g.outN.length b') (.slice c g.regs.length c') (.slice d0 g.ands.length d') (.slice e g.outs.length e') 28
  generalize w.alloc (.cells #[.slice a g.ins.length a', .slice b g.outN.length b', .slice c g.regs.length c', .slice d0 g.ands.length d', .slice e g.outs.length e'] 28) = W0 at bel X ⊢
  generalize hk : w.heap.size = k at X ⊢
  have HK := Lib.hid hk
  clear hk
  obtain ⟨x0, x1, x2, x3, x4⟩ := id X
  have H1 := Lib.hid (hC0 g _ W0 sg (hG0.below bel))
  go_upto_region 2 with (first | (go_at_call 62; refine H1.out.mono ?_; rintro ee W1 ⟨u, vp, rfl, R0, RP, hb1⟩; have R1 := R0; obtain ⟨pa, pb, pc, pd, pe, pa', pb', pc', pd', pe', rfl, pC, pA⟩ := R1.all; clear R1 pC pA; generalize (cleanG g).ins.length = l1 at R0 ⊢; generalize (cleanG g).outN.length = l2 at R0 ⊢; generalize (cleanG g).regs.length = l3 at R0 ⊢; generalize (cleanG g).ands.length = l4 at R0 ⊢; generalize (cleanG g).outs.length = l5 at R0 ⊢; replace bel := bel.trans (hb1.mono bel.size); replace X := X.below hb1; clear hb1 H1 x0 x1 x2 x3 x4; obtain ⟨x0, x1, x2, x3, x4⟩ := id X))
  have hba := (Below.refl _ W1).alloc (Nat.le_refl _) (.cells #[.slice pa l1 pa', .slice pb l2 pb', .slice pc l3 pc', .slice pd l4 pd', .slice pe l5 pe'] 28)
  have Y := GX.new W1 (.slice pa l1 pa') (.slice pb l2 pb') (.slice pc l3 pc') (.slice pd l4 pd') (.slice pe l5 pe') 28
  replace bel := bel.trans (hba.mono bel.size)
  replace X := X.below hba
  replace R0 := R0.below hba
  replace RP := RP.below hba
  clear hba x0 x1 x2 x3 x4
  generalize W1.alloc (.cells #[.slice pa l1 pa', .slice pb l2 pb', .slice pc l3 pc', .slice pd l4 pd', .slice pe l5 pe'] 28) = W2 at bel X Y R0 RP ⊢
  generalize W1.heap.size = k5 at Y ⊢
  obtain ⟨x0, x1, x2, x3, x4⟩ := id X
  have H1 := Lib.hid (fault_any g _ sg W2 (hG0.below bel))
  go_upto_region 3 with (first | (go_at_call 30; refine H1.out.mono ?_; rintro ee W3 ⟨rfl, hb1⟩; replace bel := bel.trans (hb1.mono bel.size); replace X := X.below hb1; replace Y := Y.below hb1; replace R0 := R0.below hb1; replace RP := RP.below hb1; clear hb1 H1 x0 x1 x2 x3 x4; obtain ⟨x0, x1, x2, x3, x4⟩ := id X))
  by_cases hf : faultG g = 0
  rotate_left
  · have hpr : cleanG g = nilG := if_neg hf
    have hpl : cplG g = [] := if_neg hf
    rw [hpr] at R0
    rw [hpl] at RP
    obtain ⟨ad, cp, rfl, hcp, RP⟩ := RP.open'
    clear hpr hpl RP hG0 hC hA X x0 x1 x2 x3 x4
    generalize faultG g = f at hf ⊢
    have hfb : (f == 0) = false := beq_eq_false_iff_ne.2 hf
    have hfc : (f != 0) = true := by simp [bne, hfb]
    have HSG := Lib.hid (fun v u W q1 q2 => by have := sameGraph_any _ _ v u nil_small nil_small W q1 q2; rwa [same_self2] at this)
    have hl5 := Y.lt
    obtain ⟨y0, y1, y2, y3, y4⟩ := id Y
    go_wp2_with (first | (go_at_call 15; refine (HF.out _).mono ?_; rintro ee wz ⟨rfl, hb1⟩; replace bel := bel.trans (hb1.mono bel.size); replace Y := Y.below hb1; replace R0 := R0.below hb1; clear hb1 hl5 y0 y1 y2 y3 y4; have hl5 := Y.lt; obtain ⟨y0, y1, y2, y3, y4⟩ := id Y) | (go_at_call 32; refine (HSG.out _ _ _ R0 (nil_go _)).mono ?_; rintro ee wy ⟨rfl, hb2⟩; replace bel := bel.trans (hb2.mono bel.size)))
    go_ret
    exact ⟨rfl, bel⟩
  · have hpr : cleanG g = renG g (kpG g) := if_pos hf
    have hpl : cplG g = plG g (kpG g) := if_pos hf
    have vg := vg_of hf
    rw [hpr] at R0
    rw [hpl] at RP
    rw [hf]
    have hkl : (kpG g).length = n0L g + g.ands.length := belowG_len g (goalsL g)
    have hsr : Small (renG g (kpG g)) := ren_small vg sg
    have hgl : (goalsL g).length ≤ 4000 := by unfold goalsL; have := vg.same; have := vg.outN; have := vg.regs; simp; omega
    have hpn : (plG g (kpG g)).length ≤ 4000000000 := by rw [plG_len, hkl]; unfold n0L; have := vg.ins; have := vg.regs; have := vg.ands; omega
    have H1 := Lib.hid (fun W (hb : Below w.heap.size w W) => ((goals_any g _ sg.ins sg.outs sg.regs W (hG0.below hb)).mono fun ee w' ⟨u, q1, q2, q3⟩ => ⟨u, q1, q2.row, q3⟩ : Calls Try.prog 24 _ W fun e w' => ∃ u, e = .returned u ∧ RowOf 1 encI (goalsL g) u w' ∧ Below W.heap.size W w'))
    have H2 := Lib.hid (fun r W (hb : Below w.heap.size w W) hr => ((below_any g _ r (goalsL g) vg (by omega) (goal_lit vg) W (hG0.below hb) hr).mono fun ee w' ⟨q, q1, q2, q3⟩ => ⟨_, q1, q2.rowC' _ hkl, q3⟩ : Calls Try.prog 60 _ W fun e w' => ∃ u, e = .returned u ∧ RowC (fun b => Value.bool b) (kpG g) u w' ∧ Below W.heap.size W w'))
    have H3 := Lib.hid (fun r W (hb : Below w.heap.size w W) hr => ((ren_any g _ r (kpG g) vg hkl W (hG0.below hb) hr).mono fun ee w' ⟨u, vp, q1, q2, q3, q4⟩ => ⟨_, q1, ⟨u, vp, rfl, q2, q3⟩, q4⟩ : Calls Try.prog 63 _ W fun e w' => ∃ u, e = .returned u ∧ FT (renG g (kpG g)) (plG g (kpG g)) u w' ∧ Below W.heap.size W w'))
    have HSG := Lib.hid (fun v u W q1 q2 => by have := sameGraph_any _ _ v u hsr hsr W q1 q2; rwa [same_self2] at this)
    have HSE := Lib.hid (fun v1 v2 W q1 q2 => by have := equalJ_any (plG g (kpG g)) (plG g (kpG g)) v1 v2 hpn hpn W q1 q2; rwa [decide_eq_true (rfl : plG g (kpG g) = plG g (kpG g))] at this)
    clear hpr hpl hf hkl hsr hgl hpn vg sg hG0 hC hA
    generalize renG g (kpG g) = G at R0 H3 HSG
    generalize plG g (kpG g) = PL at RP H3 HSE
    generalize kpG g = KP at H2 H3
    generalize goalsL g = GL at H1 H2
    have HB := Lib.hid (fun d os => bel.trans ((below_regrown W3 d os).mono bel.size))
    have HB2 := Lib.hid (fun d os => below_regrown W3 d os)
    go_upto_region 5 with fail
    have g0 := cell_regrown x0
    have g1 := cell_regrown x1
    have g2 := cell_regrown x2
    have g3 := cell_regrown x3
    have g4 := cell_regrown x4
    clear x0 x1 x2 x3 x4
    refine wp_region_edge 10 8 10 43 (by kernel_rfl) (by kernel_rfl) (by kernel_rfl) ?_
    intro Q0 hQ0
    simp only [List.take_succ_cons, List.take_zero, List.drop_succ_cons, List.drop_zero]
    (refine rel_fix0 (fun K hK => ?_); go_simp; refine hK _ ?_; clear hK K)
    (refine rel_fix0 (fun K hK => ?_); go_simp; refine hK _ ?_; clear hK K)
    (refine rel_fix0 (fun K hK => ?_); go_simp; refine hK _ ?_; clear hK K)
    refine rel_fact [] (RowOf 1 encI GL) 39 rfl (by simp [Act.put]) (row_sta _ _ _) (by rfl) (by kernel_rfl) (by kernel_rfl) ?_ ?_
    · intro d os
      simp only [relAll]
      go_simp
      exact ret_fact (H1.out _ (HB.out _ _))
    refine rel_fact [(39, _)] (RowC (fun b => Value.bool b) KP) 40 rfl (by simp [Act.put]) (rowC_sta _ _) (by rfl) (by kernel_rfl) (by kernel_rfl) ?_ ?_
    · intro d os
      simp only [relAll]
      rintro u1 r1
      go_simp
      exact ret_fact (H2.out _ _ (HB.out _ _) r1)
    refine rel_fact [(40, _)] (FT G PL) 41 rfl (by simp [Act.put]) (ft_sta _ _) (by rfl) (by kernel_rfl) (by kernel_rfl) ?_ ?_
    · intro d os
      simp only [relAll]
      rintro u1 r1
      go_simp
      exact ret_fact (H3.out _ _ (HB.out _ _) r1)
    refine rel_fact [(41, _)] (FT G PL) 35 rfl (by simp [Act.put]) (ft_sta _ _) (by rfl) (by kernel_rfl) (by kernel_rfl) ?_ ?_
    · intro d os
      simp only [relAll]
      rintro u1 r1
      go_simp
      all_goals exact ⟨r1, Below.refl _ _⟩
    refine rel_fact [(35, _)] (GO G) 42 rfl (by simp [Act.put]) (go_sta2 _) (by rfl) (by kernel_rfl) (by kernel_rfl) ?_ ?_
    · intro d os
      simp only [relAll]
      rintro u1 r1
      go_simp
      obtain ⟨ga, gb, rfl, q1, q2⟩ := r1; go_simp; all_goals exact ⟨q1, Below.refl _ _⟩
    refine rel_fact [(35, _)] (RowOf 1 encI PL) 43 rfl (by simp [Act.put]) (row_sta _ _ _) (by rfl) (by kernel_rfl) (by kernel_rfl) ?_ ?_
    · intro d os
      simp only [relAll]
      rintro u1 r1
      go_simp
      obtain ⟨ga, gb, rfl, q1, q2⟩ := r1; go_simp; all_goals exact ⟨q2, Below.refl _ _⟩
    refine rel_fact [] (FZ W3.heap.size) 7 rfl (by simp [Act.put]) (fz_sta _) (by rfl) (by kernel_rfl) (by kernel_rfl) ?_ ?_
    · intro d os
      simp only [relAll]
      go_simp
      refine ⟨⟨_, rfl, (by show W3.heap.size ≤ W3.heap.size + os.size; omega), ?_⟩, (Below.refl _ _).alloc (Nat.le_of_eq Array.size_append.symm) _⟩
      have hgs : (grow (redrawn W3 d) os).heap.size = (redrawn W3 d).heap.size + os.size := Array.size_append
      rw [← hgs]; exact Arr.alloc _ zG _
    refine rel_nil ?_
    intro d os
    simp only [relAll]
    rintro v7 ⟨b7, rfl, hb7, A7⟩ v43 RPL v42 G42 v35 - v41 - v40 - v39 -
    have hbr := HB2.out d os
    have bel2 := HB.out d os
    have Y2 := Y.below hbr
    have hbr3 := hbr
    have hk57 := Y.lt
    have hw37 := bel.size
    clear g0 g1 g2 g3 g4 HB HB2 H1 H2 H3 bel Y hbr X
    generalize grow (redrawn W3 d) os = W4 at A7 RPL G42 bel2 Y2 hbr3 ⊢
    have G0 := G42
    obtain ⟨qa, qb, qc, qd, qe, qa', qb', qc', qd', qe', rfl, qC, qA⟩ := G42.all
    clear G42 qC qA
    generalize G.ins.length = m1 at G0 ⊢
    generalize G.outN.length = m2 at G0 ⊢
    generalize G.regs.length = m3 at G0 ⊢
    generalize G.ands.length = m4 at G0 ⊢
    generalize G.outs.length = m5 at G0 ⊢
    have f0 := A7.free 0
    have f1 := A7.free 1
    have f2 := A7.free 2
    have f3 := A7.free 3
    have f4 := A7.free 4
    obtain ⟨z0, z1, z2, z3, z4⟩ := id (AG.gx A7)
    go_upto_region 6 with fail
    have A9 := AG.all A7 (.slice qa m1 qa') (.slice qb m2 qb') (.slice qc m3 qc') (.slice qd m4 qd') (.slice qe m5 qe')
    have b9 : Below W3.heap.size W4 ((((((W4.setCell ⟨b7, 0, none⟩ (.slice qa m1 qa')).setCell ⟨b7, 1, none⟩ (.slice qb m2 qb')).setCell ⟨b7, 2, none⟩ (.slice qc m3 qc')).setCell ⟨b7, 3, none⟩ (.slice qd m4 qd')).setCell ⟨b7, 4, none⟩ (.slice qe m5 qe'))) := (((((Below.refl W3.heap.size W4).setCell (p := ⟨b7, 0, none⟩) hb7 _).setCell (p := ⟨b7, 1, none⟩) hb7 _).setCell (p := ⟨b7, 2, none⟩) hb7 _).setCell (p := ⟨b7, 3, none⟩) hb7 _).setCell (p := ⟨b7, 4, none⟩) hb7 _
    have Y := Y2.mono b9 hk57
    have bel := bel2.trans (b9.mono hw37)
    have Z := AG.gx A9
    have R2 := R0.below (hbr3.trans b9)
    have P2 := RP.below (hbr3.trans b9)
    have G2 := G0.far A7 (sets_far W4 b7 (.slice qa m1 qa') (.slice qb m2 qb') (.slice qc m3 qc') (.slice qd m4 qd') (.slice qe m5 qe'))
    have Q2 := RPL.far A7 (fun x => ⟨_, rfl, by simp⟩) (sets_far W4 b7 (.slice qa m1 qa') (.slice qb m2 qb') (.slice qc m3 qc') (.slice qd m4 qd') (.slice qe m5 qe'))
    clear A9 b9 A7 G0 RPL hbr3 bel2 Y2 R0 RP f0 f1 f2 f3 f4 z0 z1 z2 z3 z4 hb7
    generalize (((((W4.setCell ⟨b7, 0, none⟩ (.slice qa m1 qa')).setCell ⟨b7, 1, none⟩ (.slice qb m2 qb')).setCell ⟨b7, 2, none⟩ (.slice qc m3 qc')).setCell ⟨b7, 3, none⟩ (.slice qd m4 qd')).setCell ⟨b7, 4, none⟩ (.slice qe m5 qe')) = W6 at bel Y Z R2 P2 G2 Q2 ⊢
    have hl5 := Y.lt
    have hl8 := Z.lt
    obtain ⟨y0, y1, y2, y3, y4⟩ := id Y
    obtain ⟨z0, z1, z2, z3, z4⟩ := id Z
    go_wp2_with (first | (go_at_call 15; refine (HF.out _).mono ?_; rintro ee wz ⟨rfl, hb1⟩; replace bel := bel.trans (hb1.mono bel.size); replace Y := Y.below hb1; replace Z := Z.below hb1; replace R2 := R2.below hb1; replace P2 := P2.below hb1; replace G2 := G2.below hb1; replace Q2 := Q2.below hb1; clear hb1 hl5 hl8 y0 y1 y2 y3 y4 z0 z1 z2 z3 z4; have hl5 := Y.lt; have hl8 := Z.lt; obtain ⟨y0, y1, y2, y3, y4⟩ := id Y; obtain ⟨z0, z1, z2, z3, z4⟩ := id Z) | (go_at_call 32; refine (HSG.out _ _ _ R2 G2).mono ?_; rintro ee wy ⟨rfl, hb2⟩; replace bel := bel.trans (hb2.mono bel.size); replace P2 := P2.below hb2; replace Q2 := Q2.below hb2) | (go_at_call 53; refine (HSE.out _ _ _ P2 Q2).mono ?_; rintro ee wx ⟨rfl, hb3⟩; replace bel := bel.trans (hb3.mono bel.size)))
    go_ret
    exact ⟨rfl, bel⟩
end Go.Proofs.Ytbphhcjepeamcaa
