/- The program's Levels and Depth: what they answer. Condition: a graph's rows have at most 4,000,000,000 elements. -/
import Derived.Test.YtcpifmhcebfglaaGpC
import Derived.Test.YtcpifmhcebfglaaGpF
import Derived.Test.YtcpifmhcebfglaaGrHh
import Derived.Lib.MinMax
namespace Go.Proofs.Ytcpifmhcebfglaa
open Go Go.RowKit Go.Sort
set_option linter.unusedVariables false
theorem OwnK.lies {B : Nat} {t : TypeId} {k : Nat} {α : Type} {enc : α → List Value} {w : World} {v : Value} {l : List α} (h : OwnK B t k enc w v l) (hn : 0 < l.length) : ∃ b cp, v = .slice (some ⟨b, 0, none⟩) l.length cp := by
  rcases h.2 with ⟨h1, h0⟩ | ⟨g, cap, cur, hv, _⟩
  · omega
  · exact ⟨g, cap, hv⟩
theorem OwnK.cell1 {B : Nat} {t : TypeId} {α : Type} [Inhabited α] {f : α → Value} {w : World} {b cp : Nat} {l : List α} (h : OwnK B t 1 (fun x => [f x]) w (.slice (some ⟨b, 0, none⟩) l.length cp) l) {j : Nat} (hj : j < l.length) : w.cell? ⟨b, j, none⟩ = some (f l[j]!) := by
  have := World.ownsRow.cellAt h j (by omega)
  rw [this, flat_one, List.getElem?_map, List.getElem?_eq_getElem hj, getElem!_pos l j hj]; rfl
set_option maxRecDepth 100000 in
set_option maxHeartbeats 8000000 in
theorem levels_any (g : Gr) (v : Value) (w : World) (sg : Small g) (hG : GO g v w) : Calls Try.prog 61 #[v] w fun e w' => ∃ vl, e = .returned (.tuple #[vl, .int .i64 (faultG g)]) ∧ OwnK w.heap.size 3 1 encI w' vl (levelsR g) ∧ Below w.heap.size w w' := by
  have hG0 := hG
  obtain ⟨a, b, c, d0, e, a', b', c', d', e', rfl, hC, hA⟩ := hG.all
  clear hG
  go_enter Try.func61, Try.ntmps61
  go_upto_region 1 with fail
  have bel := (Below.refl w.heap.size w).alloc (Nat.le_refl _) (.cells #[.slice a g.ins.length a', .slice b g.outN.length b', .slice c g.regs.length c', .slice d0 g.ands.length d', .slice e g.outs.length e'] 31)
  have X := GX.new w (.slice a g.ins.length a') (.slice b g.outN.length b') (.slice c g.regs.length c') (.slice d0 g.ands.length d') (.slice e g.outs.length e') 31
  generalize w.alloc (.cells #[.slice a g.ins.length a', .slice b g.outN.length b', .slice c g.regs.length c', .slice d0 g.ands.length d', .slice e g.outs.length e'] 31) = W0 at bel X ⊢
  generalize hk : w.heap.size = k at X ⊢
  have HK := Lib.hid hk
  clear hk
  obtain ⟨x0, x1, x2, x3, x4⟩ := id X
  have H0 := Lib.hid (check_any g _ sg W0 (hG0.below bel))
  by_cases hz : faultG g = 0
  rotate_left
  · have HR : Hid (levelsR g = []) := Lib.hid (if_neg hz)
    generalize hf : faultG g = f at H0 hz
    have HFF := Lib.hid hf
    clear hf
    have hz2 : (f == 0) = false := beq_eq_false_iff_ne.2 hz
    go_wp2_with (first | (go_at_call 71; refine H0.out.mono ?_; rintro ee w1 ⟨rfl, hb1⟩))
    go_ret2
    exact ⟨_, by rw [HFF.out]; rfl, by rw [HR.out]; exact OwnK.nil _ _ _ _ _, bel.trans (hb1.mono bel.size)⟩
  have vg := vg_of hz
  have HR : Hid (levelsR g = htsL g g.ands.length) := Lib.hid (if_pos hz)
  have HZ := Lib.hid hz
  rw [hz] at H0
  clear hz
  have n1 := vg.ins
  have n2 := vg.regs
  have n3 := vg.ands
  go_upto_region 4 with (first | (go_at_call 71; refine H0.out.mono ?_; rintro ee w1 ⟨rfl, hb1⟩))
  rename World => W1
  have bel1 := bel.trans (hb1.mono bel.size)
  have X1 := X.below hb1
  clear x0 x1 x2 x3 x4 X hb1 bel H0
  obtain ⟨x0, x1, x2, x3, x4⟩ := id X1
  have HB := Lib.hid (fun d os => bel1.trans ((below_regrown W1 d os).mono bel1.size))
  have H1 := Lib.hid (fun W (hb : Below w.heap.size w W) => first_ok g _ W sg (hG0.below hb))
  have H2 := Lib.hid (fun W (hb : Below w.heap.size w W) => nodes_ok g _ W sg (hG0.below hb))
  have hmk : ∀ W : World, (Instr.makeSlice 22 (.int .i64 (1 + (g.ins.length : Int) + (g.regs.length : Int))) (.int .i64 (1 + (g.ins.length : Int) + (g.regs.length : Int) + (g.ands.length : Int)))).run Try.prog W = .ok (.slice (some ⟨W.heap.size, 0, none⟩) (1 + g.ins.length + g.regs.length) (1 + g.ins.length + g.regs.length + g.ands.length)) (W.alloc (.cells (madeCells #[.int .i64 0] (1 + g.ins.length + g.regs.length + g.ands.length)) 3)) := by
    intro W
    have := mkJ W (1 + g.ins.length + g.regs.length) (1 + g.ins.length + g.regs.length + g.ands.length) (by omega) (by omega)
    rwa [show (((1 + g.ins.length + g.regs.length : Nat)) : Int) = 1 + (g.ins.length : Int) + (g.regs.length : Int) by omega, show (((1 + g.ins.length + g.regs.length + g.ands.length : Nat)) : Int) = 1 + (g.ins.length : Int) + (g.regs.length : Int) + (g.ands.length : Int) by omega] at this
  have g0 := cell_regrown x0
  have g1 := cell_regrown x1
  have g2 := cell_regrown x2
  have g3 := cell_regrown x3
  have g4 := cell_regrown x4
  clear x0 x1 x2 x3 x4
  refine wp_region_rel 4 (by kernel_rfl) (by kernel_rfl) ?_
  simp only [List.take_succ_cons, List.take_zero, List.drop_succ_cons, List.drop_zero]
  (refine rel_fix0 (fun K hK => ?_); go_simp; refine hK _ ?_; clear hK K)
  (refine rel_fix0 (fun K hK => ?_); go_simp; apply Exists.intro; refine ⟨fun _ _ => ?_, hK _ ?_⟩; (with_reducible exact ret_fix (H1.out _ (HB.out _ _))); clear hK K)
  (refine rel_fix0 (fun K hK => ?_); go_simp; refine hK _ ?_; clear hK K)
  (refine rel_fix0 (fun K hK => ?_); go_simp; apply Exists.intro; refine ⟨fun _ _ => ?_, hK _ ?_⟩; (with_reducible exact ret_fix (H2.out _ (HB.out _ _))); clear hK K)
  refine rel_nil ?_
  intro d os
  simp only [relAll]
  have b2 := HB.out d os
  have X2 := X1.below (below_regrown W1 d os)
  clear g0 g1 g2 g3 g4 HB H1 H2 X1 bel1
  generalize grow (redrawn W1 d) os = W2 at b2 X2 ⊢
  have hm2 := hmk W2
  clear hmk
  go_upto_region 5 with fail
  have bA := (Below.refl W2.heap.size W2).alloc (Nat.le_refl _) (.cells (madeCells #[.int .i64 0] (1 + g.ins.length + g.regs.length + g.ands.length)) 3)
  have O1 : OwnK W2.heap.size 3 1 encI (W2.alloc (.cells (madeCells #[.int .i64 0] (1 + g.ins.length + g.regs.length + g.ands.length)) 3)) (.slice (some ⟨W2.heap.size, 0, none⟩) (1 + g.ins.length + g.regs.length) (1 + g.ins.length + g.regs.length + g.ands.length)) (htsL g 0) := own_made (f := fun n => Value.int .i64 n) W2 W2.heap.size (Nat.le_refl _) 3 0 _ _ (by omega) (by unfold maxLen; omega)
  have HX := Lib.hid (fun W (hb : Below W2.heap.size W2 W) => X2.below hb)
  have HA := Lib.hid (fun W (hb : Below W2.heap.size W2 W) => hA.below (b2.trans (hb.mono b2.size)))
  have HB2 := Lib.hid b2
  clear hm2 hA hG0 hC X2 b2
  generalize W2.alloc (.cells (madeCells #[.int .i64 0] (1 + g.ins.length + g.regs.length + g.ands.length)) 3) = W3 at bA O1 ⊢
  obtain ⟨x0, x1, x2, x3, x4⟩ := HX.out _ bA
  go_upto_block 0 with fail
  clear x0 x1 x2 x3 x4
  obtain ⟨i0, ihi, ihz, ihs, ihb⟩ := infoMJ_parts
  go_wp2_with fail
  go_loopw [5, 21] (fun u i wr => ∃ j : Nat, j ≤ g.ands.length ∧ i = .int .i64 (j : Int) ∧ Hid (OwnK W2.heap.size 3 1 encI wr u (htsL g j)) ∧ Hid (Below W2.heap.size W2 wr)) (fun _ i _ => g.ands.length - (intOf i).toNat)
  case atStart => exact ⟨0, Nat.zero_le _, rfl, Lib.hid O1, Lib.hid bA⟩
  case round =>
    clear O1 bA
    obtain ⟨j, hj, rfl, hO, hB⟩ := hrel
    rename World => WR
    have hj0 : (0 : Int) ≤ (j : Int) := by omega
    by_cases hlt : j < g.ands.length
    · have hji : (j : Int) < (g.ands.length : Int) := by omega
      have HL := htsL_len g j hj
      obtain ⟨gb, cp, hv⟩ := hO.out.lies (by omega)
      subst hv
      have HBD := Lib.hid (hts_bound g j hj)
      have hlit := vg.lits j hlt
      rw [show baseL g = 2 * (1 + (g.ins.length : Int) + (g.regs.length : Int)) from rfl] at hlit
      have HT := Lib.hid (show htsL g (j + 1) = htsL g j ++ [1 + max (htsL g j)[ndL g.ands[j]!.1]! (htsL g j)[ndL g.ands[j]!.2]!] by rw [htsL_succ g j hlt]; unfold hAdd; rw [Int.add_comm])
      obtain ⟨bb, oo, hdd, hcell⟩ := (HA.out _ hB.out).ands.pick (by omega)
      subst hdd
      have c0 := hcell j hlt 0 _ rfl
      have c1 := hcell j hlt 1 _ rfl
      simp only [Nat.add_zero] at c0
      clear hcell
      generalize htsL g j = H at hO HL HT HBD
      generalize g.ands[j]! = p at c0 c1 HT hlit
      obtain ⟨p1, p2⟩ := p
      simp only at c0 c1 hlit HT
      obtain ⟨⟨l1, l2⟩, l3, l4⟩ := hlit
      have m1 : p1 / 2 < (H.length : Int) := by omega
      have m2 : p2 / 2 < (H.length : Int) := by omega
      have m3 : 0 ≤ p1 / 2 := by omega
      have m4 : 0 ≤ p2 / 2 := by omega
      have d1 : ndL p1 < H.length := by unfold ndL; omega
      have d2 : ndL p2 < H.length := by unfold ndL; omega
      have hb1 := HBD.out _ d1
      have hb2 := HBD.out _ d2
      have N1 := Lib.hid (fun W => show Calls Try.prog 86 #[.int .i64 p1] W fun e w' => e = .returned (.int .i64 (p1 / 2)) ∧ Below W.heap.size W w' by have := node_any p1 W; rwa [show nodeL p1 = p1 / 2 from if_pos l1] at this)
      have N2 := Lib.hid (fun W => show Calls Try.prog 86 #[.int .i64 p2] W fun e w' => e = .returned (.int .i64 (p2 / 2)) ∧ Below W.heap.size W w' by have := node_any p2 W; rwa [show nodeL p2 = p2 / 2 from if_pos l3] at this)
      clear HBD l1 l2 l3 l4
      have hHL : H.length ≤ 5000 := by omega
      have HLH := Lib.hid HL
      clear HL
      go_upto_region 8 with fail
      have bA := (Below.refl WR.heap.size WR).alloc (Nat.le_refl _) (.cells #[.int .i64 p1, .int .i64 p2] 137)
      have y0 : (WR.alloc (.cells #[.int .i64 p1, .int .i64 p2] 137)).cell? ⟨WR.heap.size, 0, none⟩ = some (.int .i64 p1) := by go_simp
      have y1 : (WR.alloc (.cells #[.int .i64 p1, .int .i64 p2] 137)).cell? ⟨WR.heap.size, 1, none⟩ = some (.int .i64 p2) := by go_simp
      have O2 := hO.out.below bA
      have B2 := hB.out.trans (bA.mono hB.out.size)
      clear bA c0 c1 hO hB
      generalize WR.alloc (.cells #[.int .i64 p1, .int .i64 p2] 137) = WS at O2 B2 y0 y1 ⊢
      generalize WR.heap.size = q10 at y0 y1 ⊢
      have a1 : WS.cell? ⟨gb, (p1 / 2).toNat, none⟩ = some (.int .i64 H[ndL p1]!) := O2.cell1 d1
      have a2 : WS.cell? ⟨gb, (p2 / 2).toNat, none⟩ = some (.int .i64 H[ndL p2]!) := O2.cell1 d2
      clear d1 d2
      generalize H[ndL p1]! = h1 at a1 HT hb1
      generalize H[ndL p2]! = h2 at a2 HT hb2
      have hwr : IntKind.i64.wrap (1 + max h1 h2) = 1 + max h1 h2 := IntWalk.i64_in _ (by omega)
      have HBS := Lib.hid (fun d os => below_regrown WS d os)
      have g0 := cell_regrown y0
      have g1 := cell_regrown y1
      have g2 := cell_regrown a1
      have g3 := cell_regrown a2
      clear y0 y1 a1 a2
      refine wp_region_rel 16 (by kernel_rfl) (by kernel_rfl) ?_
      simp only [List.take_succ_cons, List.take_zero, List.drop_succ_cons, List.drop_zero]
      (refine rel_fix0 (fun K hK => ?_); go_simp; refine hK _ ?_; clear hK K)
      (refine rel_fix0 (fun K hK => ?_); go_simp; refine hK _ ?_; clear hK K)
      (refine rel_fix0 (fun K hK => ?_); go_simp; refine hK _ ?_; clear hK K)
      (refine rel_fix0 (fun K hK => ?_); go_simp; refine hK _ ?_; clear hK K)
      (refine rel_fix0 (fun K hK => ?_); go_simp; apply Exists.intro; refine ⟨fun _ _ => ?_, hK _ ?_⟩; (with_reducible exact ret_fix (N1.out _)); clear hK K)
      (refine rel_fix0 (fun K hK => ?_); go_simp; refine hK _ ?_; clear hK K)
      (refine rel_fix0 (fun K hK => ?_); go_simp; refine hK _ ?_; clear hK K)
      (refine rel_fix0 (fun K hK => ?_); go_simp; refine hK _ ?_; clear hK K)
      (refine rel_fix0 (fun K hK => ?_); go_simp; refine hK _ ?_; clear hK K)
      (refine rel_fix0 (fun K hK => ?_); go_simp; refine hK _ ?_; clear hK K)
      (refine rel_fix0 (fun K hK => ?_); go_simp; apply Exists.intro; refine ⟨fun _ _ => ?_, hK _ ?_⟩; (with_reducible exact ret_fix (N2.out _)); clear hK K)
      (refine rel_fix0 (fun K hK => ?_); go_simp; refine hK _ ?_; clear hK K)
      (refine rel_fix0 (fun K hK => ?_); go_simp; refine hK _ ?_; clear hK K)
      (refine rel_fix0 (fun K hK => ?_); go_simp; refine hK _ ?_; clear hK K)
      (refine rel_fix0 (fun K hK => ?_); go_simp; refine hK _ ?_; clear hK K)
      refine rel_fact [] (FK [.int .i64 (1 + max h1 h2)]) 40 rfl (by simp [Act.put]) (fk_sta _) (by rfl) (by kernel_rfl) (by kernel_rfl) ?_ ?_
      · intro d os
        simp only [relAll]
        go_simp
        refine ⟨⟨_, rfl, fun q u hq => ?_⟩, (Below.refl _ _).alloc (Nat.le_of_eq (by simp)) _⟩
        match q, hq with
        | 0, hq => cases hq; go_simp
      refine rel_nil ?_
      intro d os
      simp only [relAll]
      rintro v40 ⟨r40, rfl, hy⟩
      have hb5 := HBS.out d os
      have O7 := O2.below hb5
      have B7 := B2.trans (hb5.mono B2.size)
      have hs7 := B7.size
      clear g0 g1 g2 g3 HBS O2 B2 hb5
      generalize grow (redrawn WS d) os = W7 at hy O7 B7 hs7 ⊢
      refine wpList_append_one (enc := encI) (k := 1) (fun _ => rfl) (by decide) (fun x u hu => by simp at hu; rcases hu with rfl; rfl) rfl _ _ 22 rfl (W2.heap.size) 3 i0 (.int .i64 0) 8 Try.underlying22 ihi ihz ihs ihb (by decide) _ H rfl O7 r40 1 (1 + max h1 h2) rfl hy (show H.length + 1 ≤ maxLen by unfold maxLen; omega) (show (H.length + 1) * 8 ≤ 140737488355328 by omega) (by first | omega | (simp; omega)) ?_
      intro v8 w8 O8 hb8 hg8
      have HO8 := Lib.hid O8
      have HB8 := Lib.hid (B7.trans hb8)
      clear O7 B7 O8 hb8 hg8 hy hwr
      go_wp2_with fail
      go_roundw
      case rel => exact ⟨j + 1, by omega, by go_num, (by rw [HT.out]; exact HO8), HB8⟩
      all_goals first | done | (simp [intOf]; done) | (simp [intOf]; omega)
    · have hji : ¬ (j : Int) < (g.ands.length : Int) := by omega
      have hjj : j = g.ands.length := by omega
      have HO8 := Lib.hid (show OwnK w.heap.size 3 1 encI WR _ (levelsR g) by
        rw [HR.out, ← hjj]; exact hO.out.mono HB2.out.size)
      have HB8 := Lib.hid (HB2.out.trans (hB.out.mono HB2.out.size))
      clear hO hB hjj
      go_wp2_with fail
      go_ret2
      exact ⟨_, by rw [HZ.out]; rfl, HO8.out, HB8.out⟩
theorem levels_holds : LevelsC := fun g v w sg hG => (levels_any g v w sg hG).mono fun e w' ⟨u, h1, h2, h3⟩ => ⟨u, h1, h2.row lenI, h3⟩
set_option maxRecDepth 100000 in
set_option maxHeartbeats 8000000 in
theorem depth_any (g : Gr) (v : Value) (w : World) (sg : Small g) (hG : GO g v w) : Calls Try.prog 62 #[v] w fun e w' => e = .returned (.tuple #[.int .i64 (depthR g), .int .i64 (faultG g)]) ∧ Below w.heap.size w w' := by
  have hG0 := hG
  obtain ⟨a, b, c, d0, e, a', b', c', d', e', rfl, hC, hA⟩ := hG.all
  clear hG
  go_enter Try.func62, Try.ntmps62
  go_upto_region 1 with fail
  have bel := (Below.refl w.heap.size w).alloc (Nat.le_refl _) (.cells #[.slice a g.ins.length a', .slice b g.outN.length b', .slice c g.regs.length c', .slice d0 g.ands.length d', .slice e g.outs.length e'] 31)
  have X := GX.new w (.slice a g.ins.length a') (.slice b g.outN.length b') (.slice c g.regs.length c') (.slice d0 g.ands.length d') (.slice e g.outs.length e') 31
  generalize w.alloc (.cells #[.slice a g.ins.length a', .slice b g.outN.length b', .slice c g.regs.length c', .slice d0 g.ands.length d', .slice e g.outs.length e'] 31) = W0 at bel X ⊢
  generalize hk : w.heap.size = k at X ⊢
  have HK := Lib.hid hk
  clear hk
  obtain ⟨x0, x1, x2, x3, x4⟩ := id X
  have H0 := Lib.hid (levels_any g _ W0 sg (hG0.below bel))
  by_cases hz : faultG g = 0
  rotate_left
  · have HR : Hid (depthR g = 0) := Lib.hid (if_neg hz)
    generalize hf : faultG g = f at H0 hz
    have HFF := Lib.hid hf
    clear hf
    have hz2 : (f == 0) = false := beq_eq_false_iff_ne.2 hz
    go_wp2_with (first | (go_at_call 61; refine H0.out.mono ?_; rintro ee w1 ⟨vl, rfl, O1, hb1⟩))
    go_ret2
    exact ⟨by rw [HR.out, HFF.out]; rfl, bel.trans (hb1.mono bel.size)⟩
  have vg := vg_of hz
  have HR : Hid (depthR g = depthL (htsL g g.ands.length) (goalsL g)) := Lib.hid (if_pos hz)
  have HZ := Lib.hid hz
  rw [hz, show levelsR g = htsL g g.ands.length from if_pos hz] at H0
  clear hz
  have n1 := vg.ins
  have n2 := vg.regs
  have n3 := vg.ands
  have n4 : g.outs.length ≤ 128 := by have := vg.same; have := vg.outN; omega
  go_upto_region 5 with (first | (go_at_call 61; refine H0.out.mono ?_; rintro ee w1 ⟨vl, rfl, O1, hb1⟩))
  rename World => W1
  have bel1 := bel.trans (hb1.mono bel.size)
  have X1 := X.below hb1
  clear x0 x1 x2 x3 x4 X hb1 H0
  obtain ⟨x0, x1, x2, x3, x4⟩ := id X1
  have H2 := Lib.hid (roots_any g _ W1 sg (hG0.below bel1))
  go_upto_block 0 with (first | (go_at_call 81; refine H2.out.mono ?_; rintro ee w2 ⟨vr, rfl, O2, hb2⟩; obtain ⟨ad, cp, rfl, hcp, R2⟩ := (O2.row lenI).open'; clear O2))
  rename World => W2
  have bel2 := bel1.trans (hb2.mono bel1.size)
  replace O1 := O1.below hb2
  clear hb2 x0 x1 x2 x3 x4 H2 X1 hG0 hC hA bel bel1
  have HGL := Lib.hid (goal_lit vg)
  have HLN := Lib.hid (htsL_len g g.ands.length (Nat.le_refl _))
  have HGn : (goalsL g).length ≤ 1000 := by unfold goalsL; simp; omega
  have HAL := Lib.hid (allL_eq g)
  obtain ⟨gb, cpl, hvl⟩ := O1.lies (by have := HLN.out; omega)
  subst hvl
  generalize goalsL g = L at R2 hcp HGL HGn HR
  generalize htsL g g.ands.length = H at O1 HLN HR
  go_wp2_with fail
  go_loopw [6, 20] (fun x i wr => ∃ j : Nat, j ≤ L.length ∧ x = .int .i64 (depthL H (L.take j)) ∧ i = .int .i64 (j : Int) ∧ Hid (Below W2.heap.size W2 wr)) (fun _ i _ => L.length - (intOf i).toNat)
  case atStart => exact ⟨0, Nat.zero_le _, rfl, rfl, Lib.hid (Below.refl _ _)⟩
  case round =>
    obtain ⟨j, hj, rfl, rfl, hB2⟩ := hrel
    rename World => WR
    have hj0 : (0 : Int) ≤ (j : Int) := by omega
    by_cases hlt : j < L.length
    · have hji : (j : Int) < (L.length : Int) := by omega
      have HN := Lib.hid (show depthL H (L.take (j + 1)) = max (depthL H (L.take j)) H[ndL L[j]!]! by rw [tk1 L hlt, depth_snoc])
      have hl := HGL.out L[j]! (mem1 L hlt)
      rw [HAL.out] at hl
      obtain ⟨bb, oo, hdd, hcell⟩ := (R2.below hB2.out).pick (by omega)
      subst hdd
      have c0 := hcell j hlt 0 _ rfl
      simp only [Nat.mul_one, Nat.add_zero] at c0
      clear hcell
      generalize L[j]! = l at c0 HN hl
      obtain ⟨l1, l2⟩ := hl
      have m1 : l / 2 < (H.length : Int) := by have := HLN.out; omega
      have m3 : 0 ≤ l / 2 := by omega
      have d1 : ndL l < H.length := by have := HLN.out; unfold ndL; omega
      have a1 : WR.cell? ⟨gb, (l / 2).toNat, none⟩ = some (.int .i64 H[ndL l]!) := (O1.below hB2.out).cell1 d1
      have N1 := Lib.hid (fun W => show Calls Try.prog 86 #[.int .i64 l] W fun e w' => e = .returned (.int .i64 (l / 2)) ∧ Below W.heap.size W w' by have := node_any l W; rwa [show nodeL l = l / 2 from if_pos l1] at this)
      have hgw := World.block_lt_of_cell? WR _ a1
      clear d1 l1 l2
      generalize H[ndL l]! = h1 at a1 HN
      have HB3 := Lib.hid hB2.out
      clear hB2
      go_wp2_with (first | (go_at_call 86; refine (N1.out _).mono ?_; rintro ee w3 ⟨rfl, hb3⟩; have a1 := (hb3.cell (p := ⟨gb, (l / 2).toNat, none⟩) hgw).trans a1))
      have HB4 := Lib.hid (HB3.out.trans (hb3.mono HB3.out.size))
      clear hb3 HB3
      first | go_roundw | (go_wp2_with fail; go_roundw)
      case rel => exact ⟨j + 1, by omega, by rw [HN.out], by go_num, HB4⟩
      all_goals first | done | (simp [intOf]; done) | (simp [intOf]; omega)
    · have hji : ¬ (j : Int) < (L.length : Int) := by omega
      have HE := Lib.hid (show depthL H (L.take j) = depthL H L by rw [List.take_of_length_le (by omega)])
      have HB4 := Lib.hid (bel2.trans (hB2.out.mono bel2.size))
      clear hB2
      go_wp2_with fail
      go_ret2
      exact ⟨by rw [HR.out, HZ.out, ← HE.out]; rfl, HB4.out⟩
theorem depth_holds : DepthC := fun g v w sg hG => depth_any g v w sg hG
end Go.Proofs.Ytcpifmhcebfglaa
