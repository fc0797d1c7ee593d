/- The error of a graph: the reference's walk. -/
import Derived.Test.YtcpifmhcebfglaaGrFa
namespace Go.Proofs.Ytcpifmhcebfglaa
open Go Go.RowKit Go.Sort
set_option linter.unusedVariables false
theorem GX.set {k c o : Nat} {v0 v1 v2 v3 v4 u : Value} {w : World} (h : GX k v0 v1 v2 v3 v4 w) (hc : k ≠ c) : GX k v0 v1 v2 v3 v4 (w.setCell ⟨c, o, none⟩ u) := by
  have e : ∀ j, (w.setCell ⟨c, o, none⟩ u).cell? ⟨k, j, none⟩ = w.cell? ⟨k, j, none⟩ := fun j => World.cell?_setCell_other _ _ _ _ (fun e => hc (congrArg Addr.block e).symm)
  exact ⟨(e 0).trans h.c0, (e 1).trans h.c1, (e 2).trans h.c2, (e 3).trans h.c3, (e 4).trans h.c4⟩
/-- a counter in a block of its own -/
structure Cnt (c : Nat) (n : Int) (w : World) : Prop where
  cell : w.cell? ⟨c, 0, none⟩ = some (.int .i64 n)
  free : w.frozen? ⟨c, 0, none⟩ = false
theorem Cnt.lt {c : Nat} {n : Int} {w : World} (h : Cnt c n w) : c < w.heap.size := World.block_lt_of_cell? w _ h.cell
theorem Cnt.below {c : Nat} {n : Int} {w w' : World} (h : Cnt c n w) (hb : Below w.heap.size w w') : Cnt c n w' :=
  ⟨(hb.cell (p := ⟨c, 0, none⟩) h.lt).trans h.cell, (hb.frozen (p := ⟨c, 0, none⟩) h.lt).trans h.free⟩
theorem Cnt.set {c : Nat} {n : Int} {w : World} (h : Cnt c n w) (m : Int) : Cnt c m (w.setCell ⟨c, 0, none⟩ (.int .i64 m)) := by
  have h1 := h.lt
  obtain ⟨h2, h3⟩ := h
  constructor <;> go_simp
theorem Cnt.set2 {c : Nat} {n : Int} {w : World} (h : Cnt c n w) (m m' : Int) (e : m = m') : Cnt c m' (w.setCell ⟨c, 0, none⟩ (.int .i64 m)) := by subst e; exact h.set m
theorem ands_drop {n : Int} {l : List (Int × Int)} {j : Nat} (hj : j < l.length) : andsF n (l.drop j) = (badL n l[j]!.1 || badL n l[j]!.2 || andsF (n + 2) (l.drop (j + 1))) := by
  have e : l.drop j = l[j]! :: l.drop (j + 1) := by rw [getElem!_pos l j hj]; exact List.drop_eq_getElem_cons hj
  rw [e]; rfl
theorem fault_large {g : Gr} (h : 128 < g.ins.length ∨ 128 < g.outN.length ∨ 288 < g.regs.length ∨ 4000 < g.ands.length) : faultG g = 3 := by unfold faultG; rw [if_pos h]
theorem fault_form {g : Gr} (h : ¬ (128 < g.ins.length ∨ 128 < g.outN.length ∨ 288 < g.regs.length ∨ 4000 < g.ands.length)) (h2 : g.outs.length ≠ g.outN.length) : faultG g = 4 := by unfold faultG; rw [if_neg h, if_pos h2]
theorem fault_names {g : Gr} (h : ¬ (128 < g.ins.length ∨ 128 < g.outN.length ∨ 288 < g.regs.length ∨ 4000 < g.ands.length)) (h2 : ¬ g.outs.length ≠ g.outN.length) (h3 : namesE g ≠ 0) : faultG g = namesE g := by unfold faultG; rw [if_neg h, if_neg h2, if_pos h3]
theorem fault_range {g : Gr} (h : ¬ (128 < g.ins.length ∨ 128 < g.outN.length ∨ 288 < g.regs.length ∨ 4000 < g.ands.length)) (h2 : ¬ g.outs.length ≠ g.outN.length) (h3 : ¬ namesE g ≠ 0) (h4 : andsF (baseL g) g.ands = true ∨ (g.regs.any fun r => badL (allL g) r.nx) = true ∨ anyB (allL g) g.outs = true) : faultG g = 2 := by unfold faultG; rw [if_neg h, if_neg h2, if_neg h3, if_pos h4]
theorem fault_ok {g : Gr} (h : ¬ (128 < g.ins.length ∨ 128 < g.outN.length ∨ 288 < g.regs.length ∨ 4000 < g.ands.length)) (h2 : ¬ g.outs.length ≠ g.outN.length) (h3 : ¬ namesE g ≠ 0) (h4 : ¬ (andsF (baseL g) g.ands = true ∨ (g.regs.any fun r => badL (allL g) r.nx) = true ∨ anyB (allL g) g.outs = true)) : faultG g = 0 := by unfold faultG; rw [if_neg h, if_neg h2, if_neg h3, if_neg h4]
set_option maxRecDepth 100000 in
set_option maxHeartbeats 16000000 in
theorem fault_any (g : Gr) (v : Value) (sg : Small g) (w : World) (hG : GO g v w) : Calls Try.prog 56 #[v] w fun e w' => e = .returned (.int .i64 (faultG g)) ∧ Below w.heap.size w w' := by
  have hG0 := hG
  obtain ⟨a, b, c, d0, e, a', b', c', d', e', rfl, hC, hA⟩ := hG.all
  clear hG
  go_enter Try.func56, Try.ntmps56
  go_upto_region 1 with fail
  have bel := (Below.refl w.heap.size w).alloc (Nat.le_refl _) (.cells #[.slice a g.ins.length a', .slice b g.outN.length b', .slice c g.regs.length c', .slice d0 g.ands.length d', .slice e g.outs.length e'] 31)
  have X := GX.new w (.slice a g.ins.length a') (.slice b g.outN.length b') (.slice c g.regs.length c') (.slice d0 g.ands.length d') (.slice e g.outs.length e') 31
  have hsz : w.heap.size + 1 ≤ (w.alloc (.cells #[.slice a g.ins.length a', .slice b g.outN.length b', .slice c g.regs.length c', .slice d0 g.ands.length d', .slice e g.outs.length e'] 31)).heap.size := by simp
  generalize w.alloc (.cells #[.slice a g.ins.length a', .slice b g.outN.length b', .slice c g.regs.length c', .slice d0 g.ands.length d', .slice e g.outs.length e'] 31) = W0 at bel X hsz ⊢
  generalize hk : w.heap.size = k at X ⊢
  have HK := Lib.hid hk
  clear hk
  obtain ⟨x0, x1, x2, x3, x4⟩ := id X
  have HLA := Lib.hid (@fault_large g)
  by_cases h1 : 128 < g.ins.length
  · have q1 : (128 : Int) < (g.ins.length : Int) := by omega
    go_wp2_with fail
    go_ret
    exact ⟨ret_num (HLA.out (.inl h1)).symm, bel⟩
  have q1 : ¬ (128 : Int) < (g.ins.length : Int) := by omega
  by_cases h2 : 128 < g.outN.length
  · have q2 : (128 : Int) < (g.outN.length : Int) := by omega
    go_wp2_with fail
    go_ret
    exact ⟨ret_num (HLA.out (.inr (.inl h2))).symm, bel⟩
  have q2 : ¬ (128 : Int) < (g.outN.length : Int) := by omega
  by_cases h3 : 288 < g.regs.length
  · have q3 : (288 : Int) < (g.regs.length : Int) := by omega
    go_wp2_with fail
    go_ret
    exact ⟨ret_num (HLA.out (.inr (.inr (.inl h3)))).symm, bel⟩
  have q3 : ¬ (288 : Int) < (g.regs.length : Int) := by omega
  by_cases h4 : 4000 < g.ands.length
  · have q4 : (4000 : Int) < (g.ands.length : Int) := by omega
    go_wp2_with fail
    go_ret
    exact ⟨ret_num (HLA.out (.inr (.inr (.inr h4)))).symm, bel⟩
  have q4 : ¬ (4000 : Int) < (g.ands.length : Int) := by omega
  have hl : ¬ (128 < g.ins.length ∨ 128 < g.outN.length ∨ 288 < g.regs.length ∨ 4000 < g.ands.length) := by omega
  have HLF := Lib.hid (@fault_form g hl)
  have HLN := Lib.hid (@fault_names g hl)
  have HLR := Lib.hid (@fault_range g hl)
  have HLO := Lib.hid (@fault_ok g hl)
  clear HLA hl h1 h2 h3 h4
  by_cases h5 : g.outs.length = g.outN.length
  rotate_left
  · have q5 : ((g.outs.length : Int) == (g.outN.length : Int)) = false := beq_eq_false_iff_ne.2 (by omega)
    have q6 : ¬ (g.outs.length : Int) = (g.outN.length : Int) := by omega
    have HF := Lib.hid (HLF.out h5)
    clear h5 HLF HLN HLR HLO
    go_wp2_with fail
    go_ret
    exact ⟨ret_num HF.out.symm, bel⟩
  have H5 := Lib.hid h5
  have q5 : ((g.outs.length : Int) == (g.outN.length : Int)) = true := beq_iff_eq.2 (by omega)
  have q6 : ((g.outs.length : Int) != (g.outN.length : Int)) = false := by simp [bne, q5]
  replace HLN := Lib.hid (HLN.out (fun h => h h5))
  replace HLR := Lib.hid (HLR.out (fun h => h h5))
  replace HLO := Lib.hid (HLO.out (fun h => h h5))
  clear h5 HLF
  go_upto_region 5 with fail
  clear q5 q6
  have HGO : Hid (∀ d2 os, GO g (.agg #[.slice a g.ins.length a', .slice b g.outN.length b', .slice c g.regs.length c', .slice d0 g.ands.length d', .slice e g.outs.length e']) (grow (redrawn W0 d2) os)) := Lib.hid (fun _ _ => (hG0.below bel).below (below_regrown W0 _ _))
  have HO1 : Hid (∀ d2 os, RowOf 1 encT g.outN (.slice b g.outN.length b') (grow (redrawn W0 d2) os)) := Lib.hid (fun _ _ => (RowOf.mk hC.outN (hA.outN.below bel)).below (below_regrown W0 _ _))
  have HN1 : (regNamesL g).length ≤ 9000000000 := by unfold regNamesL; have := sg.ins; have := sg.regs; simp; omega
  have HN2 : ∀ x ∈ regNamesL g, x.size ≤ 9000000000000000000 := by
    intro x hx
    unfold regNamesL at hx
    rcases List.mem_append.1 hx with h | h
    · exact sg.insT x h
    · obtain ⟨r, hr, rfl⟩ := List.mem_map.1 h; exact sg.regT r hr
  have HQ0 := fun v2 W2 h => regNames_row g v2 sg W2 h
  have HQ1 := fun v2 W2 h => rnames_row (regNamesL g) v2 HN1 HN2 W2 h
  have HQ2 := fun v2 W2 h => rnames_row g.outN v2 (by have := sg.outN; omega) sg.outT W2 h
  have HE : Hid (namesE g = orL [namesF (regNamesL g), namesF g.outN]) := Lib.hid rfl
  clear HN1 HN2
  generalize namesE g = E at HE HLN HLR HLO
  generalize regNamesL g = LN at HQ0 HQ1 HE
  generalize namesF LN = e1 at HE HQ1
  generalize namesF g.outN = e2 at HE HQ2
  replace HQ0 := Lib.hid HQ0
  replace HQ1 := Lib.hid HQ1
  replace HQ2 := Lib.hid HQ2
  have HOr := Lib.hid (fun v2 W2 h => or_any [e1, e2] v2 (by simp) W2 h)
  rw [← HE.out] at HOr
  have g0 := cell_regrown x0
  have g1 := cell_regrown x1
  have g2 := cell_regrown x2
  have g3 := cell_regrown x3
  have g4 := cell_regrown x4
  clear x0 x1 x2 x3 x4 hG0
  refine wp_region_rel 9 (by kernel_rfl) (by kernel_rfl) ?_
  simp only [List.take_succ_cons, List.take_zero, List.drop_succ_cons, List.drop_zero]
  (refine rel_fix0 (fun K hK => ?_); go_simp; refine hK _ ?_; clear hK K)
  refine rel_fact [] (RowOf 1 encT LN) 40 rfl (by simp [Act.put]) (row_sta _ _ _) (by rfl) (by kernel_rfl) (by kernel_rfl) ?_ ?_
  · intro d os
    simp only [relAll]
    go_simp
    exact ret_fact (HQ0.out _ _ (HGO.out _ _))
  refine rel_use [(40, _)] (.int .i64 e1) (by rfl) (by kernel_rfl) (by kernel_rfl) ?_ ?_
  · intro d os
    simp only [relAll]
    rintro u1 r1
    go_simp
    exact ret_fix (HQ1.out _ _ r1)
  (refine rel_fix (by kernel_rfl) (by kernel_rfl) (fun K hK => ?_); go_simp; refine hK _ ?_; clear hK K)
  (refine rel_fix (by kernel_rfl) (by kernel_rfl) (fun K hK => ?_); go_simp; refine hK _ ?_; clear hK K)
  (refine rel_fix (by kernel_rfl) (by kernel_rfl) (fun K hK => ?_); go_simp; apply Exists.intro; refine ⟨fun _ _ => ?_, hK _ ?_⟩; (with_reducible exact ret_fix (HQ2.out _ _ (HO1.out _ _))); clear hK K)
  refine rel_fact [] (RowOf 1 encI [e1, e2]) 45 rfl (by simp [Act.put]) (row_sta _ _ _) (by rfl) (by kernel_rfl) (by kernel_rfl) ?_ ?_
  · intro d os
    simp only [relAll]
    go_simp
    refine ⟨⟨_, _, rfl, by simp, .inr ⟨_, 0, rfl, fun j hj c x hx => ?_⟩⟩, (Below.refl _ _).alloc (Nat.le_of_eq Array.size_append.symm) _⟩
    match j, hj, c, hx with
    | 0, _, 0, hx => cases hx; go_simp
    | 1, _, 0, hx => cases hx; go_simp
  refine rel_use [(45, _)] (.int .i64 E) (by rfl) (by kernel_rfl) (by kernel_rfl) ?_ ?_
  · intro d os
    simp only [relAll]
    rintro u1 r1
    go_simp
    exact ret_fix (HOr.out _ _ r1)
  (refine rel_fix (by kernel_rfl) (by kernel_rfl) (fun K hK => ?_); go_simp; refine hK _ ?_; clear hK K)
  refine rel_nil ?_
  intro d os
  simp only [relAll]
  rintro v2 - v1 -
  clear g0 g1 g2 g3 g4 HOr HE HQ0 HQ1 HQ2 HO1 HGO
  replace bel := bel.trans ((below_regrown W0 d os).mono bel.size)
  replace hsz := Nat.le_trans hsz (below_regrown W0 d os).size
  replace X := X.below (below_regrown W0 d os)
  generalize grow (redrawn _ d) os = W1 at bel X hsz ⊢
  obtain ⟨x0, x1, x2, x3, x4⟩ := id X
  by_cases h6 : E = 0
  rotate_left
  · have q5 : (E == 0) = false := beq_eq_false_iff_ne.2 h6
    have q6 : (E != 0) = true := by simp [bne, q5]
    have HF := Lib.hid (HLN.out h6)
    clear h6 HLN HLR HLO
    go_wp2_with fail
    go_ret
    exact ⟨ret_num HF.out.symm, bel⟩
  replace HLR := Lib.hid (HLR.out (fun h => h h6))
  replace HLO := Lib.hid (HLO.out (fun h => h h6))
  subst h6
  clear HLN
  go_upto_region 10 with fail
  have C0 : Cnt W1.heap.size (2 * (1 + (g.ins.length : Int) + (g.regs.length : Int))) (W1.alloc (Obj.cells #[Value.int IntKind.i64 (2 * (1 + (g.ins.length : Int) + (g.regs.length : Int)))] 67)) := by constructor <;> go_simp
  replace X := X.below ((Below.refl _ W1).alloc (Nat.le_refl _) (Obj.cells #[Value.int IntKind.i64 (2 * (1 + (g.ins.length : Int) + (g.regs.length : Int)))] 67))
  replace bel := bel.alloc bel.size (Obj.cells #[Value.int IntKind.i64 (2 * (1 + (g.ins.length : Int) + (g.regs.length : Int)))] 67)
  have hkc : k ≠ W1.heap.size := by have := HK.out; omega
  have hwc : w.heap.size ≤ W1.heap.size := by omega
  have HB0 : Hid (baseL g = 2 * (1 + (g.ins.length : Int) + (g.regs.length : Int))) := Lib.hid rfl
  have hnb0 : 0 ≤ 2 * (1 + (g.ins.length : Int) + (g.regs.length : Int)) := by omega
  have hnb1 : 2 * (1 + (g.ins.length : Int) + (g.regs.length : Int)) ≤ 1000 := by omega
  generalize W1.alloc (Obj.cells #[Value.int IntKind.i64 (2 * (1 + (g.ins.length : Int) + (g.regs.length : Int)))] 67) = W2 at C0 X bel ⊢
  generalize W1.heap.size = cb at C0 hkc hwc ⊢
  clear x0 x1 x2 x3 x4 hsz
  have HAL : Hid (allL g = 2 * (1 + (g.ins.length : Int) + (g.regs.length : Int)) + 2 * (g.ands.length : Int)) := Lib.hid rfl
  generalize 2 * (1 + (g.ins.length : Int) + (g.regs.length : Int)) = nb at C0 HB0 HAL hnb0 hnb1
  obtain ⟨x0, x1, x2, x3, x4⟩ := id X
  go_upto_block 0 with fail
  clear x0 x1 x2 x3 x4
  go_wp2_with fail
  go_loopw [63] (fun i wr => ∃ j : Nat, j ≤ g.ands.length ∧ i = .int .i64 (j : Int) ∧ Hid (andsF (baseL g) g.ands = andsF (nb + 2 * j) (g.ands.drop j)) ∧ Hid (Cnt cb (nb + 2 * j) wr) ∧ Hid (GX k (.slice a g.ins.length a') (.slice b g.outN.length b') (.slice c g.regs.length c') (.slice d0 g.ands.length d') (.slice e g.outs.length e') wr) ∧ Hid (Below w.heap.size w wr)) (fun i _ => g.ands.length - (intOf i).toNat)
  case atStart => exact ⟨0, Nat.zero_le _, rfl, Lib.hid (by rw [HB0.out]; simp), Lib.hid (by simpa using C0), Lib.hid X, Lib.hid bel⟩
  case round =>
    clear X bel C0
    obtain ⟨j, hj, rfl, hA1, hC1, hX1, hB1⟩ := hrel
    rename World => WR
    have hj0 : (0 : Int) ≤ (j : Int) := by omega
    have HNX : Hid (nb + 2 * (j : Int) + 2 = nb + 2 * ((j + 1 : Nat) : Int)) := Lib.hid (by omega)
    have hN0 : 0 ≤ nb + 2 * (j : Int) := by omega
    have hN1 : nb + 2 * (j : Int) ≤ 10000 := by omega
    by_cases hlt : j < g.ands.length
    · have hji : (j : Int) < (g.ands.length : Int) := by omega
      have HAD : Hid (andsF (baseL g) g.ands = (badL (nb + 2 * j) g.ands[j]!.1 || badL (nb + 2 * j) g.ands[j]!.2 || andsF (nb + 2 * ((j + 1 : Nat) : Int)) (g.ands.drop (j + 1)))) := Lib.hid (by rw [hA1.out, ands_drop hlt, HNX.out])
      obtain ⟨bb, oo, hdd, hcell⟩ := (hA.ands.below hB1.out).pick (by omega)
      subst hdd
      have c0 := hcell j hlt 0 _ rfl
      have c1 := hcell j hlt 1 _ rfl
      simp only [Nat.add_zero] at c0
      clear hcell hA1
      generalize g.ands[j]! = p at c0 c1 HAD
      generalize hrest : andsF (nb + 2 * ((j + 1 : Nat) : Int)) (g.ands.drop (j + 1)) = rest at HAD
      have HRS := Lib.hid hrest.symm
      clear hrest
      obtain ⟨p1, p2⟩ := p
      simp only at c0 c1 HAD
      have C1 := hC1.out
      have X1 := hX1.out
      have b1 := hB1.out
      clear hC1 hX1 hB1
      generalize nb + 2 * (j : Int) = n at C1 HAD HNX hN0 hN1
      go_upto_region 13 with fail
      have y0 : (WR.alloc (Obj.cells #[Value.int IntKind.i64 p1, Value.int IntKind.i64 p2] 137)).cell? ⟨WR.heap.size, 0, none⟩ = some (.int .i64 p1) := by go_simp
      have y1 : (WR.alloc (Obj.cells #[Value.int IntKind.i64 p1, Value.int IntKind.i64 p2] 137)).cell? ⟨WR.heap.size, 1, none⟩ = some (.int .i64 p2) := by go_simp
      replace C1 := C1.below ((Below.refl _ WR).alloc (Nat.le_refl _) (Obj.cells #[Value.int IntKind.i64 p1, Value.int IntKind.i64 p2] 137))
      replace X1 := X1.below ((Below.refl _ WR).alloc (Nat.le_refl _) (Obj.cells #[Value.int IntKind.i64 p1, Value.int IntKind.i64 p2] 137))
      replace b1 := b1.alloc b1.size (Obj.cells #[Value.int IntKind.i64 p1, Value.int IntKind.i64 p2] 137)
      generalize WR.alloc (Obj.cells #[Value.int IntKind.i64 p1, Value.int IntKind.i64 p2] 137) = W3 at y0 y1 C1 X1 b1 ⊢
      generalize WR.heap.size = q at y0 y1 ⊢
      clear c0 c1
      have B1 := Lib.hid (bad_any n p1 cb W3 C1.cell)
      have B2 := Lib.hid (bad_any n p2 cb W3 C1.cell)
      have z0 := C1.lt
      cases hb1 : badL n p1 with
      | true =>
        rw [hb1] at B1
        have HF := Lib.hid (HLR.out (.inl (by rw [HAD.out, hb1]; rfl)))
        clear hb1 B2 HAD HLR HLO
        go_wp2_with (first | (go_at_call 133; refine B1.out.mono ?_; rintro e w3 ⟨rfl, rfl⟩))
        go_ret
        exact ⟨ret_num HF.out.symm, b1⟩
      | false =>
        rw [hb1] at B1
        cases hb2 : badL n p2 with
        | true =>
          rw [hb2] at B2
          have HF := Lib.hid (HLR.out (.inl (by rw [HAD.out, hb1, hb2]; rfl)))
          clear hb1 hb2 HAD HLR HLO
          go_wp2_with (first | (go_at_call 133; refine B1.out.mono ?_; rintro e w3 ⟨rfl, rfl⟩; clear B1))
          go_wp2_with (first | (go_at_call 133; refine B2.out.mono ?_; rintro e w3 ⟨rfl, rfl⟩; clear B2))
          go_ret
          exact ⟨ret_num HF.out.symm, b1⟩
        | false =>
          rw [hb2] at B2
          have HS : Hid (andsF (baseL g) g.ands = rest) := Lib.hid (by rw [HAD.out, hb1, hb2]; rfl)
          have cc := C1.cell
          have cf := C1.free
          clear hb1 hb2 HAD
          go_wp2_with (first | (go_at_call 133; refine B1.out.mono ?_; rintro e w3 ⟨rfl, rfl⟩; clear B1))
          go_wp2_with (first | (go_at_call 133; refine B2.out.mono ?_; rintro e w3 ⟨rfl, rfl⟩; clear B2))
          have HN2 := HNX.out
          have C2 := C1.set2 (n + 2) _ HNX.out
          have X2 := X1.set (o := 0) (u := .int .i64 (n + 2)) hkc
          have b2 := b1.setCell (p := ⟨cb, 0, none⟩) hwc (.int .i64 (n + 2))
          have HC2 := Lib.hid C2
          have HX2 := Lib.hid X2
          have HB2 := Lib.hid b2
          clear C2 X2 b2 C1 X1 b1 cc cf y0 y1 HN2
          have HSS := Lib.hid (HS.out.trans HRS.out)
          go_roundw
          case rel => exact ⟨j + 1, by omega, by go_num, HSS, HC2, HX2, HB2⟩
          case measure => first | done | (simp [intOf]; done) | (simp [intOf]; omega)
    · obtain rfl : j = g.ands.length := by omega
      have hji : ¬ (g.ands.length : Int) < (g.ands.length : Int) := by omega
      have HA0 : Hid (andsF (baseL g) g.ands = false) := Lib.hid (by rw [hA1.out, List.drop_of_length_le (Nat.le_refl _)]; rfl)
      have C1 : Cnt cb (allL g) WR := by rw [HAL.out]; exact hC1.out
      have X1 := hX1.out
      have b1 := hB1.out
      rw [← HAL.out] at hN0 hN1
      clear hC1 hX1 hB1 hA1 HNX HB0 HAL
      generalize allL g = n at C1 HLR HLO hN0 hN1
      obtain ⟨x0, x1, x2, x3, x4⟩ := id X1
      go_upto_block 2 with fail
      clear x0 x1 x2 x3 x4
      go_wp2_with fail
      go_loopw [83] (fun i wr => ∃ j : Nat, j ≤ g.regs.length ∧ i = .int .i64 (j : Int) ∧ Hid (((g.regs.take j).any fun r => badL n r.nx) = false) ∧ Hid (Cnt cb n wr) ∧ Hid (GX k (.slice a g.ins.length a') (.slice b g.outN.length b') (.slice c g.regs.length c') (.slice d0 g.ands.length d') (.slice e g.outs.length e') wr) ∧ Hid (Below w.heap.size w wr)) (fun i _ => g.regs.length - (intOf i).toNat)
      case atStart => exact ⟨0, Nat.zero_le _, rfl, Lib.hid rfl, Lib.hid C1, Lib.hid X1, Lib.hid b1⟩
      case round =>
        clear C1 X1 b1
        obtain ⟨j, hj, rfl, hR1, hC1, hX1, hB1⟩ := hrel
        rename World => WS
        have hj0 : (0 : Int) ≤ (j : Int) := by omega
        have C1 := hC1.out
        have X1 := hX1.out
        have b1 := hB1.out
        clear hC1 hX1 hB1
        by_cases hlt : j < g.regs.length
        · have hjr : (j : Int) < (g.regs.length : Int) := by omega
          have HT := Lib.hid (tk1 g.regs hlt)
          have HAY := Lib.hid (fun h => any_take (p := fun r : Rg => badL n r.nx) hlt h)
          obtain ⟨bb, oo, hdd, hcell⟩ := (hA.regs.below b1).pick (by omega)
          subst hdd
          have c0 := hcell j hlt 0 _ rfl
          have c1 := hcell j hlt 1 _ rfl
          have c2 := hcell j hlt 2 _ rfl
          simp only [Nat.add_zero] at c0
          clear hcell
          generalize g.regs[j]! = r at c0 c1 c2 HT HAY
          obtain ⟨r1, r2, r3⟩ := r
          simp only at c0 c1 c2
          go_upto_region 20 with fail
          have y1 : (WS.alloc (Obj.cells #[Value.string r1, Value.int IntKind.i64 r2, Value.bool r3] 128)).cell? ⟨WS.heap.size, 1, none⟩ = some (.int .i64 r2) := by go_simp
          replace C1 := C1.below ((Below.refl _ WS).alloc (Nat.le_refl _) (Obj.cells #[Value.string r1, Value.int IntKind.i64 r2, Value.bool r3] 128))
          replace X1 := X1.below ((Below.refl _ WS).alloc (Nat.le_refl _) (Obj.cells #[Value.string r1, Value.int IntKind.i64 r2, Value.bool r3] 128))
          replace b1 := b1.alloc b1.size (Obj.cells #[Value.string r1, Value.int IntKind.i64 r2, Value.bool r3] 128)
          generalize WS.alloc (Obj.cells #[Value.string r1, Value.int IntKind.i64 r2, Value.bool r3] 128) = W3 at y1 C1 X1 b1 ⊢
          generalize WS.heap.size = q at y1 ⊢
          clear c0 c1 c2
          have B1 := Lib.hid (bad_any n r2 cb W3 C1.cell)
          cases hb1 : badL n r2 with
          | true =>
            rw [hb1] at B1
            have HF := Lib.hid (HLR.out (.inr (.inl (HAY.out hb1))))
            clear hb1 HLR HLO
            go_wp2_with (first | (go_at_call 133; refine B1.out.mono ?_; rintro e w3 ⟨rfl, rfl⟩))
            go_ret
            exact ⟨ret_num HF.out.symm, b1⟩
          | false =>
            rw [hb1] at B1
            have HS : Hid (((g.regs.take (j + 1)).any fun r => badL n r.nx) = false) := Lib.hid (by rw [HT.out, List.any_append, hR1.out]; simp [hb1])
            have HC2 := Lib.hid C1
            have HX2 := Lib.hid X1
            have HB2 := Lib.hid b1
            clear hb1 C1 X1 b1
            go_wp2_with (first | (go_at_call 133; refine B1.out.mono ?_; rintro e w3 ⟨rfl, rfl⟩))
            go_roundw
            case rel => exact ⟨j + 1, by omega, by go_num, HS, HC2, HX2, HB2⟩
            case measure => first | done | (simp [intOf]; done) | (simp [intOf]; omega)
        · have hjr : ¬ (j : Int) < (g.regs.length : Int) := by omega
          have HR0 : Hid ((g.regs.any fun r => badL n r.nx) = false) := Lib.hid (by
            have := hR1.out
            rwa [List.take_of_length_le (by omega)] at this)
          have B1 := Lib.hid (containsBad_any n cb g.outs (.slice e g.outs.length e') (by have := sg.outs; omega) WS C1.cell (RowOf.mk hC.outs (hA.outs.below b1)))
          obtain ⟨x0, x1, x2, x3, x4⟩ := id X1
          cases hb1 : anyB n g.outs with
          | true =>
            rw [hb1] at B1
            have HF := Lib.hid (HLR.out (.inr (.inr hb1)))
            clear hb1 HLR HLO
            go_wp2_with (first | (go_at_call 134; refine B1.out.mono ?_; rintro e w3 ⟨rfl, rfl⟩))
            go_ret
            exact ⟨ret_num HF.out.symm, b1⟩
          | false =>
            rw [hb1] at B1
            have HF := Lib.hid (HLO.out (by rw [HA0.out, HR0.out, hb1]; simp))
            clear hb1 HLR HLO
            go_wp2_with (first | (go_at_call 134; refine B1.out.mono ?_; rintro e w3 ⟨rfl, rfl⟩))
            go_ret
            exact ⟨ret_num HF.out.symm, b1⟩
end Go.Proofs.Ytcpifmhcebfglaa
