/- The program's Check: what it answers. Condition: a graph's rows have at most 4,000,000,000 elements.
   Rows that make makes, and a new row of one element, as a fact. No condition.
   The program's Levels and Depth: what they answer. Condition: a graph's rows have at most 4,000,000,000 elements. -/
import Derived.Test.YtbphhcjepeamcaaMgPa
import Derived.Test.YtbphhcjepeamcaaGlCd
import Derived.Laws.MakeOwn
import Derived.Test.YtbphhcjepeamcaaGrHh
import Derived.Lib.MinMax
namespace Go.Proofs.Ytbphhcjepeamcaa
open Go Go.RowKit Go.Sort
set_option linter.unusedVariables false
theorem has_bad (n l : Int) : hasL n l = !badL (2 * n) l := by
  unfold hasL badL
  by_cases h : 0 ≤ l
  · by_cases h2 : l / 2 < n
    · have h3 : l < 2 * n := by omega
      simp [h, h2, h3]
    · have h3 : ¬ l < 2 * n := by omega
      simp [h2]; omega
  · simp [h] <;> omega
theorem rootsE_eq (g : Gr) : rootsE (1 + (g.ins.length : Int) + (g.regs.length : Int) + (g.ands.length : Int)) (goalsL g) = if ((g.regs.any fun r => badL (allL g) r.nx) = true ∨ anyB (allL g) g.outs = true) then 2 else 0 := by
  have e : (fun x => !hasL (1 + (g.ins.length : Int) + (g.regs.length : Int) + (g.ands.length : Int)) x) = badL (allL g) := funext fun x => by
    rw [has_bad, Bool.not_not, allL_eq]
  unfold rootsE goalsL anyB
  rw [e, List.any_append, List.any_map]
  show (if (g.outs.any (badL (allL g)) || g.regs.any (fun r => badL (allL g) r.nx)) = true then (2 : Int) else 0) = _
  cases g.outs.any (badL (allL g)) <;> cases g.regs.any (fun r => badL (allL g) r.nx) <;> rfl
set_option maxRecDepth 100000 in
set_option maxHeartbeats 16000000 in
theorem check_any (g : Gr) (v : Value) (sg : Small g) (w : World) (hG : GO g v w) : Calls Try.prog 29 #[v] w fun e w' => e = .returned (.int .i64 (faultG g)) ∧ Below w.heap.size w w' := by
  have hG0 := hG
  obtain ⟨a, b, c, d0, e, a', b', c', d', e', rfl, hC, hA⟩ := hG.all
  clear hG
  have s1 := sg.ins
  have s2 := sg.outN
  have s3 := sg.regs
  have s4 := sg.ands
  have s5 := sg.outs
  go_enter Try.func29, Try.ntmps29
  go_upto_region 1 with fail
  have bel := (Below.refl w.heap.size w).alloc (Nat.le_refl _) (.cells #[.slice a g.ins.length a', .slice b g.outN.length b', .slice c g.regs.length c', .slice d0 g.ands.length d', .slice e g.outs.length e'] 28)
  have X := GX.new w (.slice a g.ins.length a') (.slice b g.outN.length b') (.slice c g.regs.length c') (.slice d0 g.ands.length d') (.slice e g.outs.length e') 28
  generalize w.alloc (.cells #[.slice a g.ins.length a', .slice b g.outN.length b', .slice c g.regs.length c', .slice d0 g.ands.length d', .slice e g.outs.length e'] 28) = W0 at bel X ⊢
  generalize hk : w.heap.size = k at X ⊢
  have HK := Lib.hid hk
  clear hk
  obtain ⟨x0, x1, x2, x3, x4⟩ := id X
  have HLA := Lib.hid (@fault_large g)
  by_cases h1 : 128 < g.ins.length
  · have q1 : (128 : Int) < (g.ins.length : Int) := by omega
    go_wp2_with fail
    go_ret
    exact ⟨ret_num (HLA.out (.inl h1)).symm, bel⟩
  have q1 : ¬ (128 : Int) < (g.ins.length : Int) := by omega
  by_cases h2 : 128 < g.outN.length
  · have q2 : (128 : Int) < (g.outN.length : Int) := by omega
    go_wp2_with fail
    go_ret
    exact ⟨ret_num (HLA.out (.inr (.inl h2))).symm, bel⟩
  have q2 : ¬ (128 : Int) < (g.outN.length : Int) := by omega
  by_cases h3 : 288 < g.regs.length
  · have q3 : (288 : Int) < (g.regs.length : Int) := by omega
    go_wp2_with fail
    go_ret
    exact ⟨ret_num (HLA.out (.inr (.inr (.inl h3)))).symm, bel⟩
  have q3 : ¬ (288 : Int) < (g.regs.length : Int) := by omega
  by_cases h4 : 4000 < g.ands.length
  · have q4 : (4000 : Int) < (g.ands.length : Int) := by omega
    go_wp2_with fail
    go_ret
    exact ⟨ret_num (HLA.out (.inr (.inr (.inr h4)))).symm, bel⟩
  have q4 : ¬ (4000 : Int) < (g.ands.length : Int) := by omega
  have hl : ¬ (128 < g.ins.length ∨ 128 < g.outN.length ∨ 288 < g.regs.length ∨ 4000 < g.ands.length) := by omega
  have HLF := Lib.hid (@fault_form g hl)
  have HLN := Lib.hid (@fault_names g hl)
  have HLR := Lib.hid (@fault_range g hl)
  have HLO := Lib.hid (@fault_ok g hl)
  clear HLA hl h1 h2 h3 h4
  by_cases h5 : g.outs.length = g.outN.length
  rotate_left
  · have q5 : ((g.outs.length : Int) == (g.outN.length : Int)) = false := beq_eq_false_iff_ne.2 (by omega)
    have q6 : ¬ (g.outs.length : Int) = (g.outN.length : Int) := by omega
    have HF := Lib.hid (HLF.out h5)
    clear h5 HLF HLN HLR HLO
    go_wp2_with fail
    go_ret
    exact ⟨ret_num HF.out.symm, bel⟩
  have q5 : ((g.outs.length : Int) == (g.outN.length : Int)) = true := beq_iff_eq.2 (by omega)
  have q6 : ((g.outs.length : Int) != (g.outN.length : Int)) = false := by simp [bne, q5]
  replace HLN := Lib.hid (HLN.out (fun h => h h5))
  replace HLR := Lib.hid (HLR.out (fun h => h h5))
  replace HLO := Lib.hid (HLO.out (fun h => h h5))
  clear h5 HLF
  have H1 := Lib.hid (cloneT_any g.ins _ W0 sg.ins (RowOf.mk hC.ins (hA.ins.below bel)))
  go_upto_region 5 with fail
  clear q5 q6
  go_upto_region 6 with (first | (go_at_call 74; refine H1.out.mono ?_; rintro ee w1 ⟨u, rfl, O1, hb1⟩))
  rename World => W1
  have HX := Lib.hid (fun W (hb : Below W0.heap.size W0 W) => X.below hb)
  have HA := Lib.hid (fun W (hb : Below W0.heap.size W0 W) => hA.below (bel.trans (hb.mono bel.size)))
  have HG := Lib.hid (fun W (hb : Below W0.heap.size W0 W) => hG0.below (bel.trans (hb.mono bel.size)))
  have HO1 := Lib.hid (RowOf.mk hC.outN hA.outN : RowOf 1 encT g.outN _ w)
  have HIL := Lib.hid (show (regNamesL g).length ≤ 9000000000000000 by unfold regNamesL; simp; omega)
  have HIZ := Lib.hid (show ∀ x ∈ regNamesL g, x.size ≤ 9223372036854775000 by
    intro x hx
    unfold regNamesL at hx
    rcases List.mem_append.1 hx with h | h
    · have := sg.insT x h; omega
    · obtain ⟨r, hr, rfl⟩ := List.mem_map.1 h; have := sg.regT r hr; omega)
  have HOZ := Lib.hid (show ∀ x ∈ g.outN, x.size ≤ 9223372036854775000 from fun x hx => by have := sg.outT x hx; omega)
  have HBEL := Lib.hid bel
  clear x0 x1 x2 x3 x4 H1 hG0 hA hC X bel
  obtain ⟨x0, x1, x2, x3, x4⟩ := HX.out _ hb1
  go_upto_block 0 with fail
  clear x0 x1 x2 x3 x4
  obtain ⟨i0, ihi, ihz, ihs, ihb⟩ := infoCT_parts
  go_wp2_with fail
  go_loopw [3, 45] (fun u i wr => ∃ j : Nat, j ≤ g.regs.length ∧ i = .int .i64 (j : Int) ∧ Hid (OwnK W0.heap.size 9 1 encT wr u (g.ins ++ (g.regs.take j).map (·.nm))) ∧ Hid (Below W0.heap.size W0 wr)) (fun _ i _ => g.regs.length - (intOf i).toNat)
  case atStart => exact ⟨0, Nat.zero_le _, rfl, Lib.hid (by simpa using O1), Lib.hid hb1⟩
  case round =>
    clear O1
    obtain ⟨j, hj, rfl, hO, hB⟩ := hrel
    rename World => WR
    have hj0 : (0 : Int) ≤ (j : Int) := by omega
    by_cases hlt : j < g.regs.length
    · have hji : (j : Int) < (g.regs.length : Int) := by omega
      have HT := Lib.hid (show g.ins ++ (g.regs.take (j + 1)).map (·.nm) = (g.ins ++ (g.regs.take j).map (·.nm)) ++ [g.regs[j]!.nm] by rw [tk1 _ hlt, List.map_append, List.append_assoc]; rfl)
      have HL : (g.ins ++ (g.regs.take j).map (·.nm)).length ≤ 8000000000 := by simp; omega
      obtain ⟨bb, oo, hdd, hcell⟩ := (HA.out _ hB.out).regs.pick (by omega)
      subst hdd
      have c0 := hcell j hlt 0 _ rfl
      have c1 := hcell j hlt 1 _ rfl
      have c2 := hcell j hlt 2 _ rfl
      simp only [Nat.add_zero] at c0
      clear hcell
      generalize g.ins ++ (g.regs.take j).map (·.nm) = L at HT HL hO
      generalize g.regs[j]! = r at c0 c1 c2 HT
      obtain ⟨r0, r1, r2⟩ := r
      simp only at c0 c1 c2 HT
      obtain ⟨ad, cp, hv⟩ := hO.out.slice
      subst hv
      go_upto_region 9 with fail
      have bA := (Below.refl WR.heap.size WR).alloc (Nat.le_refl _) (.cells #[.string r0, .int .i64 r1, .bool r2] 89)
      have y0 : (WR.alloc (.cells #[.string r0, .int .i64 r1, .bool r2] 89)).cell? ⟨WR.heap.size, 0, none⟩ = some (.string r0) := by go_simp
      have O2 := hO.out.below bA
      have B2 := hB.out.trans (bA.mono hB.out.size)
      have hs2 := B2.size
      clear bA c0 c1 c2
      generalize WR.alloc (.cells #[.string r0, .int .i64 r1, .bool r2] 89) = WS at O2 B2 hs2 y0 ⊢
      generalize WR.heap.size = q10 at y0 ⊢
      have O4 := O2.below ((Below.refl _ WS).alloc (Nat.le_refl _) (.cells #[.string r0] 9))
      have hy : ∀ (q : Nat) (u : Value), (encT r0)[q]? = some u → (WS.alloc (.cells #[.string (r0)] 9)).cell? ⟨WS.heap.size, q, none⟩ = some u := by
        intro q u hq
        match q, hq with
        | 0, hq => cases hq; go_simp
      go_wp2_with (at_builtin; refine wpList_append_one (enc := encT) (k := 1) (fun _ => rfl) (by decide) (fun x u hu => by simp at hu; rcases hu with rfl; rfl) rfl _ _ 23 rfl (W0.heap.size) 9 i0 (.string ⟨#[]⟩) 16 Try.underlying23 ihi ihz ihs ihb (by decide) _ L rfl O4 WS.heap.size 1 (r0) rfl hy (show L.length + 1 ≤ maxLen by unfold maxLen; omega) (show (L.length + 1) * 16 ≤ 140737488355328 by omega) (by first | omega | (simp; omega)) ?_)
      intro v5 w5 O5 hb5 hg5
      have HO5 := Lib.hid O5
      have HB5 := Lib.hid (B2.trans (((Below.refl _ WS).alloc hs2 _).trans hb5))
      clear O5 hb5 hg5 O4 hy hO hB y0 O2 B2
      go_wp2_with fail
      go_roundw
      case rel => exact ⟨j + 1, by omega, by go_num, (by rw [HT.out]; exact HO5), HB5⟩
      all_goals first | done | (simp [intOf]; done) | (simp [intOf]; omega)
    · have hji : ¬ (j : Int) < (g.regs.length : Int) := by omega
      have hO2 := hO.out
      rw [List.take_of_length_le (by omega)] at hO2
      have HQ := Lib.hid (names_any (regNamesL g) _ HIL.out HIZ.out WR (hO2.row lenT))
      have HE : Hid (namesE g = orL [namesF (regNamesL g), namesF g.outN]) := Lib.hid rfl
      have HB0 := Lib.hid hB.out
      have hsz := hB.out.size
      clear hO hB hO2 HIL HIZ
      generalize namesE g = E at HE HLN HLR HLO
      generalize namesF (regNamesL g) = e1 at HQ HE
      by_cases hz1 : e1 = 0
      rotate_left
      · have HR := Lib.hid (show faultG g = e1 by
          have e2 : E = e1 := by rw [HE.out]; unfold orL; rw [if_neg hz1]
          rw [HLN.out (by rw [e2]; exact hz1), e2])
        have hz2 : (e1 == 0) = false := beq_eq_false_iff_ne.2 hz1
        clear HE HLN HLR HLO
        go_wp2_with (first | (go_at_call 27; refine HQ.out.mono ?_; rintro ee w2 ⟨rfl, hb2⟩))
        go_ret
        exact ⟨ret_num HR.out.symm, HBEL.out.trans ((HB0.out.trans (hb2.mono hsz)).mono HBEL.out.size)⟩
      subst hz1
      have HE2 : Hid (E = namesF g.outN) := Lib.hid (by
        rw [HE.out]; unfold orL; rw [if_pos rfl]; unfold orL
        by_cases hh : namesF g.outN = 0
        · rw [if_pos hh, hh]; rfl
        · rw [if_neg hh])
      clear HE
      go_upto_region 14 with (first | (go_at_call 27; refine HQ.out.mono ?_; rintro ee w2 ⟨rfl, hb2⟩))
      have HB1 := Lib.hid (HB0.out.trans (hb2.mono hsz))
      clear HB0 hsz hb2 HQ
      rename World => W2
      have hsz := HB1.out.size
      obtain ⟨x0, x1, x2, x3, x4⟩ := HX.out _ HB1.out
      have HQ2 := Lib.hid (names_any g.outN _ (by omega) HOZ.out W2 (HO1.out.below (HBEL.out.trans (HB1.out.mono HBEL.out.size))))
      generalize namesF g.outN = e2 at HQ2 HE2
      by_cases hz1 : e2 = 0
      rotate_left
      · have HR := Lib.hid (show faultG g = e2 by rw [HLN.out (by rw [HE2.out]; exact hz1), HE2.out])
        have hz2 : (e2 == 0) = false := beq_eq_false_iff_ne.2 hz1
        clear HE2 HLN HLR HLO
        go_wp2_with (first | (go_at_call 27; refine HQ2.out.mono ?_; rintro ee w3 ⟨rfl, hb3⟩))
        go_ret
        exact ⟨ret_num HR.out.symm, HBEL.out.trans ((HB1.out.trans (hb3.mono hsz)).mono HBEL.out.size)⟩
      subst hz1
      replace HLR := Lib.hid (HLR.out (fun h => h HE2.out))
      replace HLO := Lib.hid (HLO.out (fun h => h HE2.out))
      clear HLN HE2
      go_upto_region 17 with (first | (go_at_call 27; refine HQ2.out.mono ?_; rintro ee w3 ⟨rfl, hb3⟩))
      have HB2 := Lib.hid (HB1.out.trans (hb3.mono hsz))
      clear HB1 hsz hb3 HQ2 x0 x1 x2 x3 x4
      rename World => W3
      obtain ⟨x0, x1, x2, x3, x4⟩ := HX.out _ HB2.out
      go_upto_block 2 with fail
      clear x0 x1 x2 x3 x4
      have HF1 := Lib.hid (fun W (hb : Below W0.heap.size W0 W) => first_ok g _ W sg (HG.out W hb))
      have HFN : Hid (baseL g = 2 * (1 + (g.ins.length : Int) + (g.regs.length : Int))) := Lib.hid rfl
      have hfb : 0 ≤ 1 + (g.ins.length : Int) + (g.regs.length : Int) ∧ 1 + (g.ins.length : Int) + (g.regs.length : Int) ≤ 1000 := by omega
      generalize 1 + (g.ins.length : Int) + (g.regs.length : Int) = nF at HF1 HFN hfb
      go_wp2_with fail
      go_loopw [69] (fun i wr => ∃ j : Nat, j ≤ g.ands.length ∧ i = .int .i64 (j : Int) ∧ Hid (andsF (baseL g) g.ands = andsF (baseL g + 2 * (j : Int)) (g.ands.drop j)) ∧ Hid (Below W0.heap.size W0 wr)) (fun i _ => g.ands.length - (intOf i).toNat)
      case atStart => exact ⟨0, Nat.zero_le _, rfl, Lib.hid (by simp), HB2⟩
      case round =>
        clear HB2
        obtain ⟨j, hj, rfl, hE, hB⟩ := hrel
        rename World => WT
        have hj0 : (0 : Int) ≤ (j : Int) := by omega
        by_cases hlt : j < g.ands.length
        · have hji : (j : Int) < (g.ands.length : Int) := by omega
          have hjb : (j : Int) ≤ 4000 := by omega
          have hwr : IntKind.i64.wrap (nF + (j : Int)) = nF + (j : Int) := IntWalk.i64_in _ (by omega)
          have HAD : Hid (andsF (baseL g) g.ands = (!hasL (nF + (j : Int)) g.ands[j]!.1 || !hasL (nF + (j : Int)) g.ands[j]!.2 || andsF (baseL g + 2 * ((j + 1 : Nat) : Int)) (g.ands.drop (j + 1)))) := Lib.hid (by
            rw [hE.out, ands_drop hlt, has_bad, has_bad, Bool.not_not, Bool.not_not, HFN.out, show 2 * nF + 2 * (j : Int) = 2 * (nF + (j : Int)) by omega, show 2 * (nF + (j : Int)) + 2 = 2 * nF + 2 * ((j + 1 : Nat) : Int) by push_cast; omega])
          obtain ⟨bb, oo, hdd, hcell⟩ := (HA.out _ hB.out).ands.pick (by omega)
          subst hdd
          have c0 := hcell j hlt 0 _ rfl
          have c1 := hcell j hlt 1 _ rfl
          simp only [Nat.add_zero] at c0
          clear hcell hE
          generalize g.ands[j]! = p at c0 c1 HAD
          generalize hrest : andsF (baseL g + 2 * ((j + 1 : Nat) : Int)) (g.ands.drop (j + 1)) = rest at HAD
          have HREST := Lib.hid hrest
          clear hrest
          obtain ⟨p1, p2⟩ := p
          simp only at c0 c1 HAD
          obtain ⟨x0, x1, x2, x3, x4⟩ := HX.out _ hB.out
          have lx := (HX.out _ hB.out).lt
          go_upto_region 20 with fail
          have bA := (Below.refl WT.heap.size WT).alloc (Nat.le_refl _) (.cells #[.int .i64 p1, .int .i64 p2] 110)
          have y0 : (WT.alloc (.cells #[.int .i64 p1, .int .i64 p2] 110)).cell? ⟨WT.heap.size, 0, none⟩ = some (.int .i64 p1) := by go_simp
          have y1 : (WT.alloc (.cells #[.int .i64 p1, .int .i64 p2] 110)).cell? ⟨WT.heap.size, 1, none⟩ = some (.int .i64 p2) := by go_simp
          have B2 := hB.out.trans (bA.mono hB.out.size)
          clear bA c0 c1 x0 x1 x2 x3 x4 lx hB
          generalize WT.alloc (.cells #[.int .i64 p1, .int .i64 p2] 110) = WS at B2 y0 y1 ⊢
          generalize WT.heap.size = q10 at y0 y1 ⊢
          obtain ⟨x0, x1, x2, x3, x4⟩ := HX.out _ B2
          have HB := Lib.hid (fun d os => B2.trans ((below_regrown WS d os).mono B2.size))
          have H2 := Lib.hid (fun W => has_any (nF + (j : Int)) p1 W)
          have H3 := Lib.hid (fun W => has_any (nF + (j : Int)) p2 W)
          have g0 := cell_regrown x0
          have g1 := cell_regrown x1
          have g2 := cell_regrown x2
          have g3 := cell_regrown x3
          have g4 := cell_regrown x4
          have z0 := cell_regrown y0
          have z1 := cell_regrown y1
          clear x0 x1 x2 x3 x4 y0 y1 B2
          generalize hasL (nF + (j : Int)) p1 = a1 at H2 HAD
          generalize hasL (nF + (j : Int)) p2 = a2 at H3 HAD
          cases a1 with
          | false =>
            have HA0 : Hid (andsF (baseL g) g.ands = true) := Lib.hid (by rw [HAD.out]; rfl)
            have HR := Lib.hid (HLR.out (.inl HA0.out))
            refine wp_region_rel 18 (by kernel_rfl) (by kernel_rfl) ?_
            simp only [List.take_succ_cons, List.take_zero, List.drop_succ_cons, List.drop_zero]
            (refine rel_fix0 (fun K hK => ?_); go_simp; refine hK _ ?_; clear hK K)
            (refine rel_fix0 (fun K hK => ?_); go_simp; apply Exists.intro; refine ⟨fun _ _ => ?_, hK _ ?_⟩; (with_reducible exact ret_fix (HF1.out _ (HB.out _ _))); clear hK K)
            (refine rel_fix0 (fun K hK => ?_); go_simp; refine hK _ ?_; clear hK K)
            (refine rel_fix0 (fun K hK => ?_); go_simp; refine hK _ ?_; clear hK K)
            (refine rel_fix0 (fun K hK => ?_); go_simp; refine hK _ ?_; clear hK K)
            (refine rel_fix0 (fun K hK => ?_); go_simp; refine hK _ ?_; clear hK K)
            (refine rel_fix0 (fun K hK => ?_); go_simp; apply Exists.intro; refine ⟨fun _ _ => ?_, hK _ ?_⟩; (with_reducible exact ret_fix (H2.out _)); clear hK K)
            (refine rel_fix0 (fun K hK => ?_); go_simp; refine hK _ ?_; clear hK K)
            (refine rel_fix0 (fun K hK => ?_); go_simp; refine hK _ ?_; clear hK K)
            (refine rel_fix0 (fun K hK => ?_); go_simp; refine hK _ ?_; clear hK K)
            (refine rel_fix0 (fun K hK => ?_); go_simp; refine hK _ ?_; clear hK K)
            (refine rel_fix0 (fun K hK => ?_); go_simp; refine hK _ ?_; clear hK K)
            (refine rel_fix0 (fun K hK => ?_); go_simp; refine hK _ ?_; clear hK K)
            (refine rel_fix0 (fun K hK => ?_); go_simp; refine hK _ ?_; clear hK K)
            (refine rel_fix0 (fun K hK => ?_); go_simp; refine hK _ ?_; clear hK K)
            (refine rel_fix0 (fun K hK => ?_); go_simp; refine hK _ ?_; clear hK K)
            (refine rel_fix0 (fun K hK => ?_); go_simp; refine hK _ ?_; clear hK K)
            (refine rel_fix0 (fun K hK => ?_); go_simp; refine hK _ ?_; clear hK K)
            refine rel_nil ?_
            intro d os
            simp only [relAll]
            have B2 := HB.out d os
            clear g0 g1 g2 g3 g4 z0 z1 HB
            generalize grow (redrawn WS d) os = WZ at B2 ⊢
            have HBZ := Lib.hid (HBEL.out.trans (B2.mono HBEL.out.size))
            go_wp2_with fail
            go_ret
            exact ⟨ret_num HR.out.symm, HBZ.out⟩
          | true =>
            cases a2 with
            | false =>
              have HA0 : Hid (andsF (baseL g) g.ands = true) := Lib.hid (by rw [HAD.out]; rfl)
              have HR := Lib.hid (HLR.out (.inl HA0.out))
              refine wp_region_rel 18 (by kernel_rfl) (by kernel_rfl) ?_
              simp only [List.take_succ_cons, List.take_zero, List.drop_succ_cons, List.drop_zero]
              (refine rel_fix0 (fun K hK => ?_); go_simp; refine hK _ ?_; clear hK K)
              (refine rel_fix0 (fun K hK => ?_); go_simp; apply Exists.intro; refine ⟨fun _ _ => ?_, hK _ ?_⟩; (with_reducible exact ret_fix (HF1.out _ (HB.out _ _))); clear hK K)
              (refine rel_fix0 (fun K hK => ?_); go_simp; refine hK _ ?_; clear hK K)
              (refine rel_fix0 (fun K hK => ?_); go_simp; refine hK _ ?_; clear hK K)
              (refine rel_fix0 (fun K hK => ?_); go_simp; refine hK _ ?_; clear hK K)
              (refine rel_fix0 (fun K hK => ?_); go_simp; refine hK _ ?_; clear hK K)
              (refine rel_fix0 (fun K hK => ?_); go_simp; apply Exists.intro; refine ⟨fun _ _ => ?_, hK _ ?_⟩; (with_reducible exact ret_fix (H2.out _)); clear hK K)
              (refine rel_fix0 (fun K hK => ?_); go_simp; refine hK _ ?_; clear hK K)
              (refine rel_fix0 (fun K hK => ?_); go_simp; refine hK _ ?_; clear hK K)
              (refine rel_fix0 (fun K hK => ?_); go_simp; refine hK _ ?_; clear hK K)
              (refine rel_fix0 (fun K hK => ?_); go_simp; apply Exists.intro; refine ⟨fun _ _ => ?_, hK _ ?_⟩; (with_reducible exact ret_fix (HF1.out _ (HB.out _ _))); clear hK K)
              (refine rel_fix0 (fun K hK => ?_); go_simp; refine hK _ ?_; clear hK K)
              (refine rel_fix0 (fun K hK => ?_); go_simp; refine hK _ ?_; clear hK K)
              (refine rel_fix0 (fun K hK => ?_); go_simp; refine hK _ ?_; clear hK K)
              (refine rel_fix0 (fun K hK => ?_); go_simp; refine hK _ ?_; clear hK K)
              (refine rel_fix0 (fun K hK => ?_); go_simp; apply Exists.intro; refine ⟨fun _ _ => ?_, hK _ ?_⟩; (with_reducible exact ret_fix (H3.out _)); clear hK K)
              (refine rel_fix0 (fun K hK => ?_); go_simp; refine hK _ ?_; clear hK K)
              (refine rel_fix0 (fun K hK => ?_); go_simp; refine hK _ ?_; clear hK K)
              refine rel_nil ?_
              intro d os
              simp only [relAll]
              have B2 := HB.out d os
              clear g0 g1 g2 g3 g4 z0 z1 HB
              generalize grow (redrawn WS d) os = WZ at B2 ⊢
              have HBZ := Lib.hid (HBEL.out.trans (B2.mono HBEL.out.size))
              go_wp2_with fail
              go_ret
              exact ⟨ret_num HR.out.symm, HBZ.out⟩
            | true =>
              have HS : Hid (andsF (baseL g) g.ands = andsF (baseL g + 2 * ((j + 1 : Nat) : Int)) (g.ands.drop (j + 1))) := Lib.hid (by rw [HREST.out, HAD.out]; rfl)
              refine wp_region_rel 18 (by kernel_rfl) (by kernel_rfl) ?_
              simp only [List.take_succ_cons, List.take_zero, List.drop_succ_cons, List.drop_zero]
              (refine rel_fix0 (fun K hK => ?_); go_simp; refine hK _ ?_; clear hK K)
              (refine rel_fix0 (fun K hK => ?_); go_simp; apply Exists.intro; refine ⟨fun _ _ => ?_, hK _ ?_⟩; (with_reducible exact ret_fix (HF1.out _ (HB.out _ _))); clear hK K)
              (refine rel_fix0 (fun K hK => ?_); go_simp; refine hK _ ?_; clear hK K)
              (refine rel_fix0 (fun K hK => ?_); go_simp; refine hK _ ?_; clear hK K)
              (refine rel_fix0 (fun K hK => ?_); go_simp; refine hK _ ?_; clear hK K)
              (refine rel_fix0 (fun K hK => ?_); go_simp; refine hK _ ?_; clear hK K)
              (refine rel_fix0 (fun K hK => ?_); go_simp; apply Exists.intro; refine ⟨fun _ _ => ?_, hK _ ?_⟩; (with_reducible exact ret_fix (H2.out _)); clear hK K)
              (refine rel_fix0 (fun K hK => ?_); go_simp; refine hK _ ?_; clear hK K)
              (refine rel_fix0 (fun K hK => ?_); go_simp; refine hK _ ?_; clear hK K)
              (refine rel_fix0 (fun K hK => ?_); go_simp; refine hK _ ?_; clear hK K)
              (refine rel_fix0 (fun K hK => ?_); go_simp; apply Exists.intro; refine ⟨fun _ _ => ?_, hK _ ?_⟩; (with_reducible exact ret_fix (HF1.out _ (HB.out _ _))); clear hK K)
              (refine rel_fix0 (fun K hK => ?_); go_simp; refine hK _ ?_; clear hK K)
              (refine rel_fix0 (fun K hK => ?_); go_simp; refine hK _ ?_; clear hK K)
              (refine rel_fix0 (fun K hK => ?_); go_simp; refine hK _ ?_; clear hK K)
              (refine rel_fix0 (fun K hK => ?_); go_simp; refine hK _ ?_; clear hK K)
              (refine rel_fix0 (fun K hK => ?_); go_simp; apply Exists.intro; refine ⟨fun _ _ => ?_, hK _ ?_⟩; (with_reducible exact ret_fix (H3.out _)); clear hK K)
              (refine rel_fix0 (fun K hK => ?_); go_simp; refine hK _ ?_; clear hK K)
              (refine rel_fix0 (fun K hK => ?_); go_simp; refine hK _ ?_; clear hK K)
              refine rel_nil ?_
              intro d os
              simp only [relAll]
              have B2 := HB.out d os
              clear g0 g1 g2 g3 g4 z0 z1 HB
              generalize grow (redrawn WS d) os = WZ at B2 ⊢
              have HBZ := Lib.hid B2
              go_wp2_with fail
              go_roundw
              case rel => exact ⟨j + 1, by omega, by go_num, HS, HBZ⟩
              all_goals first | done | (simp [intOf]; done) | (simp [intOf]; omega)
        · have hji : ¬ (j : Int) < (g.ands.length : Int) := by omega
          have HA0 : Hid (andsF (baseL g) g.ands = false) := Lib.hid (by rw [hE.out, List.drop_of_length_le (by omega)]; rfl)
          have HR : Hid (faultG g = rootsE (1 + (g.ins.length : Int) + (g.regs.length : Int) + (g.ands.length : Int)) (goalsL g)) := Lib.hid (by
            rw [rootsE_eq]
            split
            · rename_i hh; exact HLR.out (.inr hh)
            · rename_i hh; exact HLO.out (fun h => h.elim (fun h0 => by rw [HA0.out] at h0; cases h0) hh))
          have B2 := hB.out
          have HB := Lib.hid (fun d os => B2.trans ((below_regrown WT d os).mono B2.size))
          have H4 := Lib.hid (fun W (hb : Below W0.heap.size W0 W) => roots_holds g _ W sg (HG.out W hb))
          have H5 := Lib.hid (fun u W (hb : Below W0.heap.size W0 W) (hr : RowOf 1 encI (goalsL g) u W) => checkRoots_any g _ (goalsL g) u W sg (by unfold goalsL; simp; omega) (HG.out W hb) hr)
          obtain ⟨x0, x1, x2, x3, x4⟩ := HX.out _ B2
          generalize goalsL g = L at H4 H5 HR
          generalize rootsE (1 + (g.ins.length : Int) + (g.regs.length : Int) + (g.ands.length : Int)) L = R0 at H5 HR
          clear hE hB B2
          go_upto_region 23 with fail
          have g0 := cell_regrown x0
          have g1 := cell_regrown x1
          have g2 := cell_regrown x2
          have g3 := cell_regrown x3
          have g4 := cell_regrown x4
          clear x0 x1 x2 x3 x4
          refine wp_region_rel 4 (by kernel_rfl) (by kernel_rfl) ?_
          simp only [List.take_succ_cons, List.take_zero, List.drop_succ_cons, List.drop_zero]
          (refine rel_fix0 (fun K hK => ?_); go_simp; refine hK _ ?_; clear hK K)
          (refine rel_fix0 (fun K hK => ?_); go_simp; refine hK _ ?_; clear hK K)
          refine rel_fact [] (RowOf 1 encI L) 95 rfl (by simp [Act.put]) (row_sta _ _ _) (by rfl) (by kernel_rfl) (by kernel_rfl) ?_ ?_
          · intro d os
            simp only [relAll]
            go_simp
            exact ret_fact (H4.out _ (HB.out _ _))
          refine rel_use [(95, _)] (.int .i64 R0) (by rfl) (by kernel_rfl) (by kernel_rfl) ?_ ?_
          · intro d os
            simp only [relAll]
            rintro u1 r1
            go_simp
            exact ret_fix (H5.out _ _ (HB.out _ _) r1)
          refine rel_nil ?_
          intro d os
          simp only [relAll]
          rintro v95 -
          have B2 := HB.out d os
          clear g0 g1 g2 g3 g4 HB
          generalize grow (redrawn WT d) os = WZ at B2 ⊢
          have HBZ := Lib.hid (HBEL.out.trans (B2.mono HBEL.out.size))
          go_wp2_with fail
          go_ret
          exact ⟨ret_num HR.out.symm, HBZ.out⟩
theorem check_holds : CheckC := fun g v w sg hG => check_any g v sg w hG
end Go.Proofs.Ytbphhcjepeamcaa
namespace Go.Proofs.Ytbphhcjepeamcaa
open Go Go.RowKit Go.Sort
set_option linter.unusedVariables false
/-- a new row of one element with these cells -/
def FK (cs : List Value) : Fa := fun v w => ∃ b, v = .slice (some ⟨b, 0, none⟩) 1 1 ∧ ∀ (q : Nat) (u : Value), cs[q]? = some u → w.cell? ⟨b, q, none⟩ = some u
theorem fk_sta (cs : List Value) : Sta (FK cs) := fun v w w' ⟨b, h1, h2⟩ hb => ⟨b, h1, fun q u hq => (hb.cell (p := ⟨b, q, none⟩) (World.block_lt_of_cell? w _ (h2 q u hq))).trans (h2 q u hq)⟩
theorem run_mk {W : World} {t e : TypeId} {i : TypeInfo} {z : Value} (ht : Try.prog.underlying t = some (.slice e)) (hi : Try.prog.info? e = some i) (hz : i.zero = some z) (hs : i.size = 1) (hzc : z.cells = #[z]) (l c : Nat) (hlc : l ≤ c) (hb : i.bytes * c ≤ 281474976710656) (hc : c ≤ 9223372036854775807) :
    (Instr.makeSlice t (.int .i64 (l : Int)) (.int .i64 (c : Int))).run Try.prog W = .ok (.slice (some ⟨W.heap.size, 0, none⟩) l c) (W.alloc (.cells (madeCells #[z] c) e)) := by
  have hb' : (i.bytes : Int) * (c : Int) ≤ 281474976710656 := by
    have h : ((i.bytes * c : Nat) : Int) ≤ 281474976710656 := by omega
    rwa [Int.natCast_mul] at h
  have h := run_make (P := Try.prog) W t e i z ht hi hz .i64 .i64 (l : Int) (c : Int) (by omega) (by omega) hb' (by omega)
  rw [hs, hzc] at h
  simpa using h
theorem own_made {α : Type} {f : α → Value} (W : World) (B : Nat) (hB : B ≤ W.heap.size) (t : TypeId) (x : α) (l c : Nat) (hlc : l ≤ c) (hc : c ≤ maxLen) : OwnK B t 1 (fun y => [f y]) (W.alloc (.cells (madeCells #[f x] c) t)) (.slice (some ⟨W.heap.size, 0, none⟩) l c) (List.replicate l x) := by
  unfold OwnK
  rw [flat_one, List.length_replicate, made_one]
  refine ⟨by simp, .inr ⟨W.heap.size, c, Array.replicate c (f x), rfl, hB, ?_, hlc, hc, by simp, ?_⟩⟩
  · show (W.heap.push _)[W.heap.size]? = _; simp
  · rw [Array.toList_replicate, List.map_replicate, List.take_replicate]
    congr 1
    omega
theorem infoMJ : (Try.prog.info? 3).map (fun i => (i.zero, i.size, i.bytes)) = some (some (.int .i64 0), 1, 8) := by kernel_rfl
theorem infoMJ_parts : ∃ i, Try.prog.info? 3 = some i ∧ i.zero = some (.int .i64 0) ∧ i.size = 1 ∧ i.bytes = 8 := by
  have h := infoMJ
  cases hi : Try.prog.info? 3 with
  | none => rw [hi] at h; cases h
  | some i =>
    rw [hi] at h
    simp only [Option.map_some, Option.some.injEq, Prod.mk.injEq] at h
    exact ⟨i, rfl, h.1, h.2.1, h.2.2⟩
theorem mkJ (W : World) (l c : Nat) (hlc : l ≤ c) (hc : c ≤ 8000000000) : (Instr.makeSlice 52 (.int .i64 (l : Int)) (.int .i64 (c : Int))).run Try.prog W = .ok (.slice (some ⟨W.heap.size, 0, none⟩) l c) (W.alloc (.cells (madeCells #[.int .i64 0] c) 3)) := by
  obtain ⟨i, hi, hz, hs, hb⟩ := infoMJ_parts
  exact run_mk Try.underlying52 hi hz hs (by kernel_rfl) l c hlc (by rw [hb]; omega) (by omega)
theorem infoMB : (Try.prog.info? 4).map (fun i => (i.zero, i.size, i.bytes)) = some (some (.bool false), 1, 1) := by kernel_rfl
theorem infoMB_parts : ∃ i, Try.prog.info? 4 = some i ∧ i.zero = some (.bool false) ∧ i.size = 1 ∧ i.bytes = 1 := by
  have h := infoMB
  cases hi : Try.prog.info? 4 with
  | none => rw [hi] at h; cases h
  | some i =>
    rw [hi] at h
    simp only [Option.map_some, Option.some.injEq, Prod.mk.injEq] at h
    exact ⟨i, rfl, h.1, h.2.1, h.2.2⟩
theorem mkB (W : World) (l c : Nat) (hlc : l ≤ c) (hc : c ≤ 8000000000) : (Instr.makeSlice 53 (.int .i64 (l : Int)) (.int .i64 (c : Int))).run Try.prog W = .ok (.slice (some ⟨W.heap.size, 0, none⟩) l c) (W.alloc (.cells (madeCells #[.bool false] c) 4)) := by
  obtain ⟨i, hi, hz, hs, hb⟩ := infoMB_parts
  exact run_mk Try.underlying53 hi hz hs (by kernel_rfl) l c hlc (by rw [hb]; omega) (by omega)
theorem infoMU : (Try.prog.info? 66).map (fun i => (i.zero, i.size, i.bytes)) = some (some (.int .u64 0), 1, 8) := by kernel_rfl
theorem infoMU_parts : ∃ i, Try.prog.info? 66 = some i ∧ i.zero = some (.int .u64 0) ∧ i.size = 1 ∧ i.bytes = 8 := by
  have h := infoMU
  cases hi : Try.prog.info? 66 with
  | none => rw [hi] at h; cases h
  | some i =>
    rw [hi] at h
    simp only [Option.map_some, Option.some.injEq, Prod.mk.injEq] at h
    exact ⟨i, rfl, h.1, h.2.1, h.2.2⟩
theorem mkU (W : World) (l c : Nat) (hlc : l ≤ c) (hc : c ≤ 8000000000) : (Instr.makeSlice 46 (.int .i64 (l : Int)) (.int .i64 (c : Int))).run Try.prog W = .ok (.slice (some ⟨W.heap.size, 0, none⟩) l c) (W.alloc (.cells (madeCells #[.int .u64 0] c) 66)) := by
  obtain ⟨i, hi, hz, hs, hb⟩ := infoMU_parts
  exact run_mk Try.underlying46 hi hz hs (by kernel_rfl) l c hlc (by rw [hb]; omega) (by omega)
theorem infoMSb : (Try.prog.info? 53).map (fun i => (i.zero, i.size, i.bytes)) = some (some (.slice none 0 0), 1, 24) := by kernel_rfl
theorem infoMSb_parts : ∃ i, Try.prog.info? 53 = some i ∧ i.zero = some (.slice none 0 0) ∧ i.size = 1 ∧ i.bytes = 24 := by
  have h := infoMSb
  cases hi : Try.prog.info? 53 with
  | none => rw [hi] at h; cases h
  | some i =>
    rw [hi] at h
    simp only [Option.map_some, Option.some.injEq, Prod.mk.injEq] at h
    exact ⟨i, rfl, h.1, h.2.1, h.2.2⟩
theorem mkSb (W : World) (l c : Nat) (hlc : l ≤ c) (hc : c ≤ 8000000000) : (Instr.makeSlice 68 (.int .i64 (l : Int)) (.int .i64 (c : Int))).run Try.prog W = .ok (.slice (some ⟨W.heap.size, 0, none⟩) l c) (W.alloc (.cells (madeCells #[.slice none 0 0] c) 53)) := by
  obtain ⟨i, hi, hz, hs, hb⟩ := infoMSb_parts
  exact run_mk Try.underlying68 hi hz hs (by kernel_rfl) l c hlc (by rw [hb]; omega) (by omega)
end Go.Proofs.Ytbphhcjepeamcaa
namespace Go.Proofs.Ytbphhcjepeamcaa
open Go Go.RowKit Go.Sort
set_option linter.unusedVariables false
theorem OwnK.lies {B : Nat} {t : TypeId} {k : Nat} {α : Type} {enc : α → List Value} {w : World} {v : Value} {l : List α} (h : OwnK B t k enc w v l) (hn : 0 < l.length) : ∃ b cp, v = .slice (some ⟨b, 0, none⟩) l.length cp := by
  rcases h.2 with ⟨h1, h0⟩ | ⟨g, cap, cur, hv, _⟩
  · omega
  · exact ⟨g, cap, hv⟩
theorem OwnK.cell1 {B : Nat} {t : TypeId} {α : Type} [Inhabited α] {f : α → Value} {w : World} {b cp : Nat} {l : List α} (h : OwnK B t 1 (fun x => [f x]) w (.slice (some ⟨b, 0, none⟩) l.length cp) l) {j : Nat} (hj : j < l.length) : w.cell? ⟨b, j, none⟩ = some (f l[j]!) := by
  have := World.ownsRow.cellAt h j (by omega)
  rw [this, flat_one, List.getElem?_map, List.getElem?_eq_getElem hj, getElem!_pos l j hj]; rfl
set_option maxRecDepth 100000 in
set_option maxHeartbeats 8000000 in
theorem levels_any (g : Gr) (v : Value) (w : World) (sg : Small g) (hG : GO g v w) : Calls Try.prog 51 #[v] w fun e w' => ∃ vl, e = .returned (.tuple #[vl, .int .i64 (faultG g)]) ∧ OwnK w.heap.size 3 1 encI w' vl (levelsR g) ∧ Below w.heap.size w w' := by
  have hG0 := hG
  obtain ⟨a, b, c, d0, e, a', b', c', d', e', rfl, hC, hA⟩ := hG.all
  clear hG
  go_enter Try.func51, Try.ntmps51
  go_upto_region 1 with fail
  have bel := (Below.refl w.heap.size w).alloc (Nat.le_refl _) (.cells #[.slice a g.ins.length a', .slice b g.outN.length b', .slice c g.regs.length c', .slice d0 g.ands.length d', .slice e g.outs.length e'] 28)
  have X := GX.new w (.slice a g.ins.length a') (.slice b g.outN.length b') (.slice c g.regs.length c') (.slice d0 g.ands.length d') (.slice e g.outs.length e') 28
  generalize w.alloc (.cells #[.slice a g.ins.length a', .slice b g.outN.length b', .slice c g.regs.length c', .slice d0 g.ands.length d', .slice e g.outs.length e'] 28) = W0 at bel X ⊢
  generalize hk : w.heap.size = k at X ⊢
  have HK := Lib.hid hk
  clear hk
  obtain ⟨x0, x1, x2, x3, x4⟩ := id X
  have H0 := Lib.hid (check_any g _ sg W0 (hG0.below bel))
  by_cases hz : faultG g = 0
  rotate_left
  · have HR : Hid (levelsR g = []) := Lib.hid (if_neg hz)
    generalize hf : faultG g = f at H0 hz
    have HFF := Lib.hid hf
    clear hf
    have hz2 : (f == 0) = false := beq_eq_false_iff_ne.2 hz
    go_wp2_with (first | (go_at_call 29; refine H0.out.mono ?_; rintro ee w1 ⟨rfl, hb1⟩))
    go_ret2
    exact ⟨_, by rw [HFF.out]; rfl, by rw [HR.out]; exact OwnK.nil _ _ _ _ _, bel.trans (hb1.mono bel.size)⟩
  have vg := vg_of hz
  have HR : Hid (levelsR g = htsL g g.ands.length) := Lib.hid (if_pos hz)
  have HZ := Lib.hid hz
  rw [hz] at H0
  clear hz
  have n1 := vg.ins
  have n2 := vg.regs
  have n3 := vg.ands
  go_upto_region 4 with (first | (go_at_call 29; refine H0.out.mono ?_; rintro ee w1 ⟨rfl, hb1⟩))
  rename World => W1
  have bel1 := bel.trans (hb1.mono bel.size)
  have X1 := X.below hb1
  clear x0 x1 x2 x3 x4 X hb1 bel H0
  obtain ⟨x0, x1, x2, x3, x4⟩ := id X1
  have HB := Lib.hid (fun d os => bel1.trans ((below_regrown W1 d os).mono bel1.size))
  have H1 := Lib.hid (fun W (hb : Below w.heap.size w W) => first_ok g _ W sg (hG0.below hb))
  have H2 := Lib.hid (fun W (hb : Below w.heap.size w W) => nodes_ok g _ W sg (hG0.below hb))
  have hmk : ∀ W : World, (Instr.makeSlice 52 (.int .i64 (1 + (g.ins.length : Int) + (g.regs.length : Int))) (.int .i64 (1 + (g.ins.length : Int) + (g.regs.length : Int) + (g.ands.length : Int)))).run Try.prog W = .ok (.slice (some ⟨W.heap.size, 0, none⟩) (1 + g.ins.length + g.regs.length) (1 + g.ins.length + g.regs.length + g.ands.length)) (W.alloc (.cells (madeCells #[.int .i64 0] (1 + g.ins.length + g.regs.length + g.ands.length)) 3)) := by
    intro W
    have := mkJ W (1 + g.ins.length + g.regs.length) (1 + g.ins.length + g.regs.length + g.ands.length) (by omega) (by omega)
    rwa [show (((1 + g.ins.length + g.regs.length : Nat)) : Int) = 1 + (g.ins.length : Int) + (g.regs.length : Int) by omega, show (((1 + g.ins.length + g.regs.length + g.ands.length : Nat)) : Int) = 1 + (g.ins.length : Int) + (g.regs.length : Int) + (g.ands.length : Int) by omega] at this
  have g0 := cell_regrown x0
  have g1 := cell_regrown x1
  have g2 := cell_regrown x2
  have g3 := cell_regrown x3
  have g4 := cell_regrown x4
  clear x0 x1 x2 x3 x4
  refine wp_region_rel 4 (by kernel_rfl) (by kernel_rfl) ?_
  simp only [List.take_succ_cons, List.take_zero, List.drop_succ_cons, List.drop_zero]
  (refine rel_fix0 (fun K hK => ?_); go_simp; refine hK _ ?_; clear hK K)
  (refine rel_fix0 (fun K hK => ?_); go_simp; apply Exists.intro; refine ⟨fun _ _ => ?_, hK _ ?_⟩; (with_reducible exact ret_fix (H1.out _ (HB.out _ _))); clear hK K)
  (refine rel_fix0 (fun K hK => ?_); go_simp; refine hK _ ?_; clear hK K)
  (refine rel_fix0 (fun K hK => ?_); go_simp; apply Exists.intro; refine ⟨fun _ _ => ?_, hK _ ?_⟩; (with_reducible exact ret_fix (H2.out _ (HB.out _ _))); clear hK K)
  refine rel_nil ?_
  intro d os
  simp only [relAll]
  have b2 := HB.out d os
  have X2 := X1.below (below_regrown W1 d os)
  clear g0 g1 g2 g3 g4 HB H1 H2 X1 bel1
  generalize grow (redrawn W1 d) os = W2 at b2 X2 ⊢
  have hm2 := hmk W2
  clear hmk
  go_upto_region 5 with fail
  have bA := (Below.refl W2.heap.size W2).alloc (Nat.le_refl _) (.cells (madeCells #[.int .i64 0] (1 + g.ins.length + g.regs.length + g.ands.length)) 3)
  have O1 : OwnK W2.heap.size 3 1 encI (W2.alloc (.cells (madeCells #[.int .i64 0] (1 + g.ins.length + g.regs.length + g.ands.length)) 3)) (.slice (some ⟨W2.heap.size, 0, none⟩) (1 + g.ins.length + g.regs.length) (1 + g.ins.length + g.regs.length + g.ands.length)) (htsL g 0) := own_made (f := fun n => Value.int .i64 n) W2 W2.heap.size (Nat.le_refl _) 3 0 _ _ (by omega) (by unfold maxLen; omega)
  have HX := Lib.hid (fun W (hb : Below W2.heap.size W2 W) => X2.below hb)
  have HA := Lib.hid (fun W (hb : Below W2.heap.size W2 W) => hA.below (b2.trans (hb.mono b2.size)))
  have HB2 := Lib.hid b2
  clear hm2 hA hG0 hC X2 b2
  generalize W2.alloc (.cells (madeCells #[.int .i64 0] (1 + g.ins.length + g.regs.length + g.ands.length)) 3) = W3 at bA O1 ⊢
  obtain ⟨x0, x1, x2, x3, x4⟩ := HX.out _ bA
  go_upto_block 0 with fail
  clear x0 x1 x2 x3 x4
  obtain ⟨i0, ihi, ihz, ihs, ihb⟩ := infoMJ_parts
  go_wp2_with fail
  go_loopw [5, 21] (fun u i wr => ∃ j : Nat, j ≤ g.ands.length ∧ i = .int .i64 (j : Int) ∧ Hid (OwnK W2.heap.size 3 1 encI wr u (htsL g j)) ∧ Hid (Below W2.heap.size W2 wr)) (fun _ i _ => g.ands.length - (intOf i).toNat)
  case atStart => exact ⟨0, Nat.zero_le _, rfl, Lib.hid O1, Lib.hid bA⟩
  case round =>
    clear O1 bA
    obtain ⟨j, hj, rfl, hO, hB⟩ := hrel
    rename World => WR
    have hj0 : (0 : Int) ≤ (j : Int) := by omega
    by_cases hlt : j < g.ands.length
    · have hji : (j : Int) < (g.ands.length : Int) := by omega
      have HL := htsL_len g j hj
      obtain ⟨gb, cp, hv⟩ := hO.out.lies (by omega)
      subst hv
      have HBD := Lib.hid (hts_bound g j hj)
      have hlit := vg.lits j hlt
      rw [show baseL g = 2 * (1 + (g.ins.length : Int) + (g.regs.length : Int)) from rfl] at hlit
      have HT := Lib.hid (show htsL g (j + 1) = htsL g j ++ [1 + max (htsL g j)[ndL g.ands[j]!.1]! (htsL g j)[ndL g.ands[j]!.2]!] by rw [htsL_succ g j hlt]; unfold hAdd; rw [Int.add_comm])
      obtain ⟨bb, oo, hdd, hcell⟩ := (HA.out _ hB.out).ands.pick (by omega)
      subst hdd
      have c0 := hcell j hlt 0 _ rfl
      have c1 := hcell j hlt 1 _ rfl
      simp only [Nat.add_zero] at c0
      clear hcell
      generalize htsL g j = H at hO HL HT HBD
      generalize g.ands[j]! = p at c0 c1 HT hlit
      obtain ⟨p1, p2⟩ := p
      simp only at c0 c1 hlit HT
      obtain ⟨⟨l1, l2⟩, l3, l4⟩ := hlit
      have m1 : p1 / 2 < (H.length : Int) := by omega
      have m2 : p2 / 2 < (H.length : Int) := by omega
      have m3 : 0 ≤ p1 / 2 := by omega
      have m4 : 0 ≤ p2 / 2 := by omega
      have d1 : ndL p1 < H.length := by unfold ndL; omega
      have d2 : ndL p2 < H.length := by unfold ndL; omega
      have hb1 := HBD.out _ d1
      have hb2 := HBD.out _ d2
      have N1 := Lib.hid (fun W => show Calls Try.prog 17 #[.int .i64 p1] W fun e w' => e = .returned (.int .i64 (p1 / 2)) ∧ Below W.heap.size W w' by have := node_any p1 W; rwa [show nodeL p1 = p1 / 2 from if_pos l1] at this)
      have N2 := Lib.hid (fun W => show Calls Try.prog 17 #[.int .i64 p2] W fun e w' => e = .returned (.int .i64 (p2 / 2)) ∧ Below W.heap.size W w' by have := node_any p2 W; rwa [show nodeL p2 = p2 / 2 from if_pos l3] at this)
      clear HBD l1 l2 l3 l4
      have hHL : H.length ≤ 5000 := by omega
      have HLH := Lib.hid HL
      clear HL
      go_upto_region 8 with fail
      have bA := (Below.refl WR.heap.size WR).alloc (Nat.le_refl _) (.cells #[.int .i64 p1, .int .i64 p2] 110)
      have y0 : (WR.alloc (.cells #[.int .i64 p1, .int .i64 p2] 110)).cell? ⟨WR.heap.size, 0, none⟩ = some (.int .i64 p1) := by go_simp
      have y1 : (WR.alloc (.cells #[.int .i64 p1, .int .i64 p2] 110)).cell? ⟨WR.heap.size, 1, none⟩ = some (.int .i64 p2) := by go_simp
      have O2 := hO.out.below bA
      have B2 := hB.out.trans (bA.mono hB.out.size)
      clear bA c0 c1 hO hB
      generalize WR.alloc (.cells #[.int .i64 p1, .int .i64 p2] 110) = WS at O2 B2 y0 y1 ⊢
      generalize WR.heap.size = q10 at y0 y1 ⊢
      have a1 : WS.cell? ⟨gb, (p1 / 2).toNat, none⟩ = some (.int .i64 H[ndL p1]!) := O2.cell1 d1
      have a2 : WS.cell? ⟨gb, (p2 / 2).toNat, none⟩ = some (.int .i64 H[ndL p2]!) := O2.cell1 d2
      clear d1 d2
      generalize H[ndL p1]! = h1 at a1 HT hb1
      generalize H[ndL p2]! = h2 at a2 HT hb2
      have hwr : IntKind.i64.wrap (1 + max h1 h2) = 1 + max h1 h2 := IntWalk.i64_in _ (by omega)
      have HBS := Lib.hid (fun d os => below_regrown WS d os)
      have g0 := cell_regrown y0
      have g1 := cell_regrown y1
      have g2 := cell_regrown a1
      have g3 := cell_regrown a2
      clear y0 y1 a1 a2
      refine wp_region_rel 16 (by kernel_rfl) (by kernel_rfl) ?_
      simp only [List.take_succ_cons, List.take_zero, List.drop_succ_cons, List.drop_zero]
      (refine rel_fix0 (fun K hK => ?_); go_simp; refine hK _ ?_; clear hK K)
      (refine rel_fix0 (fun K hK => ?_); go_simp; refine hK _ ?_; clear hK K)
      (refine rel_fix0 (fun K hK => ?_); go_simp; refine hK _ ?_; clear hK K)
      (refine rel_fix0 (fun K hK => ?_); go_simp; refine hK _ ?_; clear hK K)
      (refine rel_fix0 (fun K hK => ?_); go_simp; apply Exists.intro; refine ⟨fun _ _ => ?_, hK _ ?_⟩; (with_reducible exact ret_fix (N1.out _)); clear hK K)
      (refine rel_fix0 (fun K hK => ?_); go_simp; refine hK _ ?_; clear hK K)
      (refine rel_fix0 (fun K hK => ?_); go_simp; refine hK _ ?_; clear hK K)
      (refine rel_fix0 (fun K hK => ?_); go_simp; refine hK _ ?_; clear hK K)
      (refine rel_fix0 (fun K hK => ?_); go_simp; refine hK _ ?_; clear hK K)
      (refine rel_fix0 (fun K hK => ?_); go_simp; refine hK _ ?_; clear hK K)
      (refine rel_fix0 (fun K hK => ?_); go_simp; apply Exists.intro; refine ⟨fun _ _ => ?_, hK _ ?_⟩; (with_reducible exact ret_fix (N2.out _)); clear hK K)
      (refine rel_fix0 (fun K hK => ?_); go_simp; refine hK _ ?_; clear hK K)
      (refine rel_fix0 (fun K hK => ?_); go_simp; refine hK _ ?_; clear hK K)
      (refine rel_fix0 (fun K hK => ?_); go_simp; refine hK _ ?_; clear hK K)
      (refine rel_fix0 (fun K hK => ?_); go_simp; refine hK _ ?_; clear hK K)
      refine rel_fact [] (FK [.int .i64 (1 + max h1 h2)]) 40 rfl (by simp [Act.put]) (fk_sta _) (by rfl) (by kernel_rfl) (by kernel_rfl) ?_ ?_
      · intro d os
        simp only [relAll]
        go_simp
        refine ⟨⟨_, rfl, fun q u hq => ?_⟩, (Below.refl _ _).alloc (Nat.le_of_eq (by simp)) _⟩
        match q, hq with
        | 0, hq => cases hq; go_simp
      refine rel_nil ?_
      intro d os
      simp only [relAll]
      rintro v40 ⟨r40, rfl, hy⟩
      have hb5 := HBS.out d os
      have O7 := O2.below hb5
      have B7 := B2.trans (hb5.mono B2.size)
      have hs7 := B7.size
      clear g0 g1 g2 g3 HBS O2 B2 hb5
      generalize grow (redrawn WS d) os = W7 at hy O7 B7 hs7 ⊢
      refine wpList_append_one (enc := encI) (k := 1) (fun _ => rfl) (by decide) (fun x u hu => by simp at hu; rcases hu with rfl; rfl) rfl _ _ 52 rfl (W2.heap.size) 3 i0 (.int .i64 0) 8 Try.underlying52 ihi ihz ihs ihb (by decide) _ H rfl O7 r40 1 (1 + max h1 h2) rfl hy (show H.length + 1 ≤ maxLen by unfold maxLen; omega) (show (H.length + 1) * 8 ≤ 140737488355328 by omega) (by first | omega | (simp; omega)) ?_
      intro v8 w8 O8 hb8 hg8
      have HO8 := Lib.hid O8
      have HB8 := Lib.hid (B7.trans hb8)
      clear O7 B7 O8 hb8 hg8 hy hwr
      go_wp2_with fail
      go_roundw
      case rel => exact ⟨j + 1, by omega, by go_num, (by rw [HT.out]; exact HO8), HB8⟩
      all_goals first | done | (simp [intOf]; done) | (simp [intOf]; omega)
    · have hji : ¬ (j : Int) < (g.ands.length : Int) := by omega
      have hjj : j = g.ands.length := by omega
      have HO8 := Lib.hid (show OwnK w.heap.size 3 1 encI WR _ (levelsR g) by
        rw [HR.out, ← hjj]; exact hO.out.mono HB2.out.size)
      have HB8 := Lib.hid (HB2.out.trans (hB.out.mono HB2.out.size))
      clear hO hB hjj
      go_wp2_with fail
      go_ret2
      exact ⟨_, by rw [HZ.out]; rfl, HO8.out, HB8.out⟩
theorem levels_holds : LevelsC := fun g v w sg hG => (levels_any g v w sg hG).mono fun e w' ⟨u, h1, h2, h3⟩ => ⟨u, h1, h2.row lenI, h3⟩
set_option maxRecDepth 100000 in
set_option maxHeartbeats 8000000 in
theorem depth_any (g : Gr) (v : Value) (w : World) (sg : Small g) (hG : GO g v w) : Calls Try.prog 52 #[v] w fun e w' => e = .returned (.tuple #[.int .i64 (depthR g), .int .i64 (faultG g)]) ∧ Below w.heap.size w w' := by
  have hG0 := hG
  obtain ⟨a, b, c, d0, e, a', b', c', d', e', rfl, hC, hA⟩ := hG.all
  clear hG
  go_enter Try.func52, Try.ntmps52
  go_upto_region 1 with fail
  have bel := (Below.refl w.heap.size w).alloc (Nat.le_refl _) (.cells #[.slice a g.ins.length a', .slice b g.outN.length b', .slice c g.regs.length c', .slice d0 g.ands.length d', .slice e g.outs.length e'] 28)
  have X := GX.new w (.slice a g.ins.length a') (.slice b g.outN.length b') (.slice c g.regs.length c') (.slice d0 g.ands.length d') (.slice e g.outs.length e') 28
  generalize w.alloc (.cells #[.slice a g.ins.length a', .slice b g.outN.length b', .slice c g.regs.length c', .slice d0 g.ands.length d', .slice e g.outs.length e'] 28) = W0 at bel X ⊢
  generalize hk : w.heap.size = k at X ⊢
  have HK := Lib.hid hk
  clear hk
  obtain ⟨x0, x1, x2, x3, x4⟩ := id X
  have H0 := Lib.hid (levels_any g _ W0 sg (hG0.below bel))
  by_cases hz : faultG g = 0
  rotate_left
  · have HR : Hid (depthR g = 0) := Lib.hid (if_neg hz)
    generalize hf : faultG g = f at H0 hz
    have HFF := Lib.hid hf
    clear hf
    have hz2 : (f == 0) = false := beq_eq_false_iff_ne.2 hz
    go_wp2_with (first | (go_at_call 51; refine H0.out.mono ?_; rintro ee w1 ⟨vl, rfl, O1, hb1⟩))
    go_ret2
    exact ⟨by rw [HR.out, HFF.out]; rfl, bel.trans (hb1.mono bel.size)⟩
  have vg := vg_of hz
  have HR : Hid (depthR g = depthL (htsL g g.ands.length) (goalsL g)) := Lib.hid (if_pos hz)
  have HZ := Lib.hid hz
  rw [hz, show levelsR g = htsL g g.ands.length from if_pos hz] at H0
  clear hz
  have n1 := vg.ins
  have n2 := vg.regs
  have n3 := vg.ands
  have n4 : g.outs.length ≤ 128 := by have := vg.same; have := vg.outN; omega
  go_upto_region 5 with (first | (go_at_call 51; refine H0.out.mono ?_; rintro ee w1 ⟨vl, rfl, O1, hb1⟩))
  rename World => W1
  have bel1 := bel.trans (hb1.mono bel.size)
  have X1 := X.below hb1
  clear x0 x1 x2 x3 x4 X hb1 H0
  obtain ⟨x0, x1, x2, x3, x4⟩ := id X1
  have H2 := Lib.hid (roots_any g _ W1 sg (hG0.below bel1))
  go_upto_block 0 with (first | (go_at_call 23; refine H2.out.mono ?_; rintro ee w2 ⟨vr, rfl, O2, hb2⟩; obtain ⟨ad, cp, rfl, hcp, R2⟩ := (O2.row lenI).open'; clear O2))
  rename World => W2
  have bel2 := bel1.trans (hb2.mono bel1.size)
  replace O1 := O1.below hb2
  clear hb2 x0 x1 x2 x3 x4 H2 X1 hG0 hC hA bel bel1
  have HGL := Lib.hid (goal_lit vg)
  have HLN := Lib.hid (htsL_len g g.ands.length (Nat.le_refl _))
  have HGn : (goalsL g).length ≤ 1000 := by unfold goalsL; simp; omega
  have HAL := Lib.hid (allL_eq g)
  obtain ⟨gb, cpl, hvl⟩ := O1.lies (by have := HLN.out; omega)
  subst hvl
  generalize goalsL g = L at R2 hcp HGL HGn HR
  generalize htsL g g.ands.length = H at O1 HLN HR
  go_wp2_with fail
  go_loopw [6, 20] (fun x i wr => ∃ j : Nat, j ≤ L.length ∧ x = .int .i64 (depthL H (L.take j)) ∧ i = .int .i64 (j : Int) ∧ Hid (Below W2.heap.size W2 wr)) (fun _ i _ => L.length - (intOf i).toNat)
  case atStart => exact ⟨0, Nat.zero_le _, rfl, rfl, Lib.hid (Below.refl _ _)⟩
  case round =>
    obtain ⟨j, hj, rfl, rfl, hB2⟩ := hrel
    rename World => WR
    have hj0 : (0 : Int) ≤ (j : Int) := by omega
    by_cases hlt : j < L.length
    · have hji : (j : Int) < (L.length : Int) := by omega
      have HN := Lib.hid (show depthL H (L.take (j + 1)) = max (depthL H (L.take j)) H[ndL L[j]!]! by rw [tk1 L hlt, depth_snoc])
      have hl := HGL.out L[j]! (mem1 L hlt)
      rw [HAL.out] at hl
      obtain ⟨bb, oo, hdd, hcell⟩ := (R2.below hB2.out).pick (by omega)
      subst hdd
      have c0 := hcell j hlt 0 _ rfl
      simp only [Nat.mul_one, Nat.add_zero] at c0
      clear hcell
      generalize L[j]! = l at c0 HN hl
      obtain ⟨l1, l2⟩ := hl
      have m1 : l / 2 < (H.length : Int) := by have := HLN.out; omega
      have m3 : 0 ≤ l / 2 := by omega
      have d1 : ndL l < H.length := by have := HLN.out; unfold ndL; omega
      have a1 : WR.cell? ⟨gb, (l / 2).toNat, none⟩ = some (.int .i64 H[ndL l]!) := (O1.below hB2.out).cell1 d1
      have N1 := Lib.hid (fun W => show Calls Try.prog 17 #[.int .i64 l] W fun e w' => e = .returned (.int .i64 (l / 2)) ∧ Below W.heap.size W w' by have := node_any l W; rwa [show nodeL l = l / 2 from if_pos l1] at this)
      have hgw := World.block_lt_of_cell? WR _ a1
      clear d1 l1 l2
      generalize H[ndL l]! = h1 at a1 HN
      have HB3 := Lib.hid hB2.out
      clear hB2
      go_wp2_with (first | (go_at_call 17; refine (N1.out _).mono ?_; rintro ee w3 ⟨rfl, hb3⟩; have a1 := (hb3.cell (p := ⟨gb, (l / 2).toNat, none⟩) hgw).trans a1))
      have HB4 := Lib.hid (HB3.out.trans (hb3.mono HB3.out.size))
      clear hb3 HB3
      first | go_roundw | (go_wp2_with fail; go_roundw)
      case rel => exact ⟨j + 1, by omega, by rw [HN.out], by go_num, HB4⟩
      all_goals first | done | (simp [intOf]; done) | (simp [intOf]; omega)
    · have hji : ¬ (j : Int) < (L.length : Int) := by omega
      have HE := Lib.hid (show depthL H (L.take j) = depthL H L by rw [List.take_of_length_le (by omega)])
      have HB4 := Lib.hid (bel2.trans (hB2.out.mono bel2.size))
      clear hB2
      go_wp2_with fail
      go_ret2
      exact ⟨by rw [HR.out, HZ.out, ← HE.out]; rfl, HB4.out⟩
theorem depth_holds : DepthC := fun g v w sg hG => depth_any g v w sg hG
end Go.Proofs.Ytbphhcjepeamcaa
