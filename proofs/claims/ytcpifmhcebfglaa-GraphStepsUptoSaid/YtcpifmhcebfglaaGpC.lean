/- The program's Check: what it answers. Condition: a graph's rows have at most 4,000,000,000 elements. -/
import Derived.Test.YtcpifmhcebfglaaGpR
import Derived.Test.YtcpifmhcebfglaaGpN
import Derived.Test.YtcpifmhcebfglaaGlCd
namespace Go.Proofs.Ytcpifmhcebfglaa
open Go Go.RowKit Go.Sort
set_option linter.unusedVariables false
theorem has_bad (n l : Int) : hasL n l = !badL (2 * n) l := by
  unfold hasL badL
  by_cases h : 0 ≤ l
  · by_cases h2 : l / 2 < n
    · have h3 : l < 2 * n := by omega
      simp [h, h2, h3]
    · have h3 : ¬ l < 2 * n := by omega
      simp [h2]; omega
  · simp [h] <;> omega
theorem rootsE_eq (g : Gr) : rootsE (1 + (g.ins.length : Int) + (g.regs.length : Int) + (g.ands.length : Int)) (goalsL g) = if ((g.regs.any fun r => badL (allL g) r.nx) = true ∨ anyB (allL g) g.outs = true) then 2 else 0 := by
  have e : (fun x => !hasL (1 + (g.ins.length : Int) + (g.regs.length : Int) + (g.ands.length : Int)) x) = badL (allL g) := funext fun x => by
    rw [has_bad, Bool.not_not, allL_eq]
  unfold rootsE goalsL anyB
  rw [e, List.any_append, List.any_map]
  show (if (g.outs.any (badL (allL g)) || g.regs.any (fun r => badL (allL g) r.nx)) = true then (2 : Int) else 0) = _
  cases g.outs.any (badL (allL g)) <;> cases g.regs.any (fun r => badL (allL g) r.nx) <;> rfl
set_option maxRecDepth 100000 in
set_option maxHeartbeats 16000000 in
theorem check_any (g : Gr) (v : Value) (sg : Small g) (w : World) (hG : GO g v w) : Calls Try.prog 71 #[v] w fun e w' => e = .returned (.int .i64 (faultG g)) ∧ Below w.heap.size w w' := by
  have hG0 := hG
  obtain ⟨a, b, c, d0, e, a', b', c', d', e', rfl, hC, hA⟩ := hG.all
  clear hG
  have s1 := sg.ins
  have s2 := sg.outN
  have s3 := sg.regs
  have s4 := sg.ands
  have s5 := sg.outs
  go_enter Try.func71, Try.ntmps71
  go_upto_region 1 with fail
  have bel := (Below.refl w.heap.size w).alloc (Nat.le_refl _) (.cells #[.slice a g.ins.length a', .slice b g.outN.length b', .slice c g.regs.length c', .slice d0 g.ands.length d', .slice e g.outs.length e'] 31)
  have X := GX.new w (.slice a g.ins.length a') (.slice b g.outN.length b') (.slice c g.regs.length c') (.slice d0 g.ands.length d') (.slice e g.outs.length e') 31
  generalize w.alloc (.cells #[.slice a g.ins.length a', .slice b g.outN.length b', .slice c g.regs.length c', .slice d0 g.ands.length d', .slice e g.outs.length e'] 31) = W0 at bel X ⊢
  generalize hk : w.heap.size = k at X ⊢
  have HK := Lib.hid hk
  clear hk
  obtain ⟨x0, x1, x2, x3, x4⟩ := id X
  have HLA := Lib.hid (@fault_large g)
  by_cases h1 : 128 < g.ins.length
  · have q1 : (128 : Int) < (g.ins.length : Int) := by omega
    go_wp2_with fail
    go_ret
    exact ⟨ret_num (HLA.out (.inl h1)).symm, bel⟩
  have q1 : ¬ (128 : Int) < (g.ins.length : Int) := by omega
  by_cases h2 : 128 < g.outN.length
  · have q2 : (128 : Int) < (g.outN.length : Int) := by omega
    go_wp2_with fail
    go_ret
    exact ⟨ret_num (HLA.out (.inr (.inl h2))).symm, bel⟩
  have q2 : ¬ (128 : Int) < (g.outN.length : Int) := by omega
  by_cases h3 : 288 < g.regs.length
  · have q3 : (288 : Int) < (g.regs.length : Int) := by omega
    go_wp2_with fail
    go_ret
    exact ⟨ret_num (HLA.out (.inr (.inr (.inl h3)))).symm, bel⟩
  have q3 : ¬ (288 : Int) < (g.regs.length : Int) := by omega
  by_cases h4 : 4000 < g.ands.length
  · have q4 : (4000 : Int) < (g.ands.length : Int) := by omega
    go_wp2_with fail
    go_ret
    exact ⟨ret_num (HLA.out (.inr (.inr (.inr h4)))).symm, bel⟩
  have q4 : ¬ (4000 : Int) < (g.ands.length : Int) := by omega
  have hl : ¬ (128 < g.ins.length ∨ 128 < g.outN.length ∨ 288 < g.regs.length ∨ 4000 < g.ands.length) := by omega
  have HLF := Lib.hid (@fault_form g hl)
  have HLN := Lib.hid (@fault_names g hl)
  have HLR := Lib.hid (@fault_range g hl)
  have HLO := Lib.hid (@fault_ok g hl)
  clear HLA hl h1 h2 h3 h4
  by_cases h5 : g.outs.length = g.outN.length
  rotate_left
  · have q5 : ((g.outs.length : Int) == (g.outN.length : Int)) = false := beq_eq_false_iff_ne.2 (by omega)
    have q6 : ¬ (g.outs.length : Int) = (g.outN.length : Int) := by omega
    have HF := Lib.hid (HLF.out h5)
    clear h5 HLF HLN HLR HLO
    go_wp2_with fail
    go_ret
    exact ⟨ret_num HF.out.symm, bel⟩
  have q5 : ((g.outs.length : Int) == (g.outN.length : Int)) = true := beq_iff_eq.2 (by omega)
  have q6 : ((g.outs.length : Int) != (g.outN.length : Int)) = false := by simp [bne, q5]
  replace HLN := Lib.hid (HLN.out (fun h => h h5))
  replace HLR := Lib.hid (HLR.out (fun h => h h5))
  replace HLO := Lib.hid (HLO.out (fun h => h h5))
  clear h5 HLF
  have H1 := Lib.hid (cloneT_any g.ins _ W0 sg.ins (RowOf.mk hC.ins (hA.ins.below bel)))
  go_upto_region 5 with fail
  clear q5 q6
  go_upto_region 6 with (first | (go_at_call 97; refine H1.out.mono ?_; rintro ee w1 ⟨u, rfl, O1, hb1⟩))
  rename World => W1
  have HX := Lib.hid (fun W (hb : Below W0.heap.size W0 W) => X.below hb)
  have HA := Lib.hid (fun W (hb : Below W0.heap.size W0 W) => hA.below (bel.trans (hb.mono bel.size)))
  have HG := Lib.hid (fun W (hb : Below W0.heap.size W0 W) => hG0.below (bel.trans (hb.mono bel.size)))
  have HO1 := Lib.hid (RowOf.mk hC.outN hA.outN : RowOf 1 encT g.outN _ w)
  have HIL := Lib.hid (show (regNamesL g).length ≤ 9000000000000000 by unfold regNamesL; simp; omega)
  have HIZ := Lib.hid (show ∀ x ∈ regNamesL g, x.size ≤ 9223372036854775000 by
    intro x hx
    unfold regNamesL at hx
    rcases List.mem_append.1 hx with h | h
    · have := sg.insT x h; omega
    · obtain ⟨r, hr, rfl⟩ := List.mem_map.1 h; have := sg.regT r hr; omega)
  have HOZ := Lib.hid (show ∀ x ∈ g.outN, x.size ≤ 9223372036854775000 from fun x hx => by have := sg.outT x hx; omega)
  have HBEL := Lib.hid bel
  clear x0 x1 x2 x3 x4 H1 hG0 hA hC X bel
  obtain ⟨x0, x1, x2, x3, x4⟩ := HX.out _ hb1
  go_upto_block 0 with fail
  clear x0 x1 x2 x3 x4
  obtain ⟨i0, ihi, ihz, ihs, ihb⟩ := infoCT_parts
  go_wp2_with fail
  go_loopw [3, 45] (fun u i wr => ∃ j : Nat, j ≤ g.regs.length ∧ i = .int .i64 (j : Int) ∧ Hid (OwnK W0.heap.size 9 1 encT wr u (g.ins ++ (g.regs.take j).map (·.nm))) ∧ Hid (Below W0.heap.size W0 wr)) (fun _ i _ => g.regs.length - (intOf i).toNat)
  case atStart => exact ⟨0, Nat.zero_le _, rfl, Lib.hid (by simpa using O1), Lib.hid hb1⟩
  case round =>
    clear O1
    obtain ⟨j, hj, rfl, hO, hB⟩ := hrel
    rename World => WR
    have hj0 : (0 : Int) ≤ (j : Int) := by omega
    by_cases hlt : j < g.regs.length
    · have hji : (j : Int) < (g.regs.length : Int) := by omega
      have HT := Lib.hid (show g.ins ++ (g.regs.take (j + 1)).map (·.nm) = (g.ins ++ (g.regs.take j).map (·.nm)) ++ [g.regs[j]!.nm] by rw [tk1 _ hlt, List.map_append, List.append_assoc]; rfl)
      have HL : (g.ins ++ (g.regs.take j).map (·.nm)).length ≤ 8000000000 := by simp; omega
      obtain ⟨bb, oo, hdd, hcell⟩ := (HA.out _ hB.out).regs.pick (by omega)
      subst hdd
      have c0 := hcell j hlt 0 _ rfl
      have c1 := hcell j hlt 1 _ rfl
      have c2 := hcell j hlt 2 _ rfl
      simp only [Nat.add_zero] at c0
      clear hcell
      generalize g.ins ++ (g.regs.take j).map (·.nm) = L at HT HL hO
      generalize g.regs[j]! = r at c0 c1 c2 HT
      obtain ⟨r0, r1, r2⟩ := r
      simp only at c0 c1 c2 HT
      obtain ⟨ad, cp, hv⟩ := hO.out.slice
      subst hv
      go_upto_region 9 with fail
      have bA := (Below.refl WR.heap.size WR).alloc (Nat.le_refl _) (.cells #[.string r0, .int .i64 r1, .bool r2] 128)
      have y0 : (WR.alloc (.cells #[.string r0, .int .i64 r1, .bool r2] 128)).cell? ⟨WR.heap.size, 0, none⟩ = some (.string r0) := by go_simp
      have O2 := hO.out.below bA
      have B2 := hB.out.trans (bA.mono hB.out.size)
      have hs2 := B2.size
      clear bA c0 c1 c2
      generalize WR.alloc (.cells #[.string r0, .int .i64 r1, .bool r2] 128) = WS at O2 B2 hs2 y0 ⊢
      generalize WR.heap.size = q10 at y0 ⊢
      have O4 := O2.below ((Below.refl _ WS).alloc (Nat.le_refl _) (.cells #[.string r0] 9))
      have hy : ∀ (q : Nat) (u : Value), (encT r0)[q]? = some u → (WS.alloc (.cells #[.string (r0)] 9)).cell? ⟨WS.heap.size, q, none⟩ = some u := by
        intro q u hq
        match q, hq with
        | 0, hq => cases hq; go_simp
      go_wp2_with (at_builtin; refine wpList_append_one (enc := encT) (k := 1) (fun _ => rfl) (by decide) (fun x u hu => by simp at hu; rcases hu with rfl; rfl) rfl _ _ 26 rfl (W0.heap.size) 9 i0 (.string ⟨#[]⟩) 16 Try.underlying26 ihi ihz ihs ihb (by decide) _ L rfl O4 WS.heap.size 1 (r0) rfl hy (show L.length + 1 ≤ maxLen by unfold maxLen; omega) (show (L.length + 1) * 16 ≤ 140737488355328 by omega) (by first | omega | (simp; omega)) ?_)
      intro v5 w5 O5 hb5 hg5
      have HO5 := Lib.hid O5
      have HB5 := Lib.hid (B2.trans (((Below.refl _ WS).alloc hs2 _).trans hb5))
      clear O5 hb5 hg5 O4 hy hO hB y0 O2 B2
      go_wp2_with fail
      go_roundw
      case rel => exact ⟨j + 1, by omega, by go_num, (by rw [HT.out]; exact HO5), HB5⟩
      all_goals first | done | (simp [intOf]; done) | (simp [intOf]; omega)
    · have hji : ¬ (j : Int) < (g.regs.length : Int) := by omega
      have hO2 := hO.out
      rw [List.take_of_length_le (by omega)] at hO2
      have HQ := Lib.hid (names_any (regNamesL g) _ HIL.out HIZ.out WR (hO2.row lenT))
      have HE : Hid (namesE g = orL [namesF (regNamesL g), namesF g.outN]) := Lib.hid rfl
      have HB0 := Lib.hid hB.out
      have hsz := hB.out.size
      clear hO hB hO2 HIL HIZ
      generalize namesE g = E at HE HLN HLR HLO
      generalize namesF (regNamesL g) = e1 at HQ HE
      by_cases hz1 : e1 = 0
      rotate_left
      · have HR := Lib.hid (show faultG g = e1 by
          have e2 : E = e1 := by rw [HE.out]; unfold orL; rw [if_neg hz1]
          rw [HLN.out (by rw [e2]; exact hz1), e2])
        have hz2 : (e1 == 0) = false := beq_eq_false_iff_ne.2 hz1
        clear HE HLN HLR HLO
        go_wp2_with (first | (go_at_call 147; refine HQ.out.mono ?_; rintro ee w2 ⟨rfl, hb2⟩))
        go_ret
        exact ⟨ret_num HR.out.symm, HBEL.out.trans ((HB0.out.trans (hb2.mono hsz)).mono HBEL.out.size)⟩
      subst hz1
      have HE2 : Hid (E = namesF g.outN) := Lib.hid (by
        rw [HE.out]; unfold orL; rw [if_pos rfl]; unfold orL
        by_cases hh : namesF g.outN = 0
        · rw [if_pos hh, hh]; rfl
        · rw [if_neg hh])
      clear HE
      go_upto_region 14 with (first | (go_at_call 147; refine HQ.out.mono ?_; rintro ee w2 ⟨rfl, hb2⟩))
      have HB1 := Lib.hid (HB0.out.trans (hb2.mono hsz))
      clear HB0 hsz hb2 HQ
      rename World => W2
      have hsz := HB1.out.size
      obtain ⟨x0, x1, x2, x3, x4⟩ := HX.out _ HB1.out
      have HQ2 := Lib.hid (names_any g.outN _ (by omega) HOZ.out W2 (HO1.out.below (HBEL.out.trans (HB1.out.mono HBEL.out.size))))
      generalize namesF g.outN = e2 at HQ2 HE2
      by_cases hz1 : e2 = 0
      rotate_left
      · have HR := Lib.hid (show faultG g = e2 by rw [HLN.out (by rw [HE2.out]; exact hz1), HE2.out])
        have hz2 : (e2 == 0) = false := beq_eq_false_iff_ne.2 hz1
        clear HE2 HLN HLR HLO
        go_wp2_with (first | (go_at_call 147; refine HQ2.out.mono ?_; rintro ee w3 ⟨rfl, hb3⟩))
        go_ret
        exact ⟨ret_num HR.out.symm, HBEL.out.trans ((HB1.out.trans (hb3.mono hsz)).mono HBEL.out.size)⟩
      subst hz1
      replace HLR := Lib.hid (HLR.out (fun h => h HE2.out))
      replace HLO := Lib.hid (HLO.out (fun h => h HE2.out))
      clear HLN HE2
      go_upto_region 17 with (first | (go_at_call 147; refine HQ2.out.mono ?_; rintro ee w3 ⟨rfl, hb3⟩))
      have HB2 := Lib.hid (HB1.out.trans (hb3.mono hsz))
      clear HB1 hsz hb3 HQ2 x0 x1 x2 x3 x4
      rename World => W3
      obtain ⟨x0, x1, x2, x3, x4⟩ := HX.out _ HB2.out
      go_upto_block 2 with fail
      clear x0 x1 x2 x3 x4
      have HF1 := Lib.hid (fun W (hb : Below W0.heap.size W0 W) => first_ok g _ W sg (HG.out W hb))
      have HFN : Hid (baseL g = 2 * (1 + (g.ins.length : Int) + (g.regs.length : Int))) := Lib.hid rfl
      have hfb : 0 ≤ 1 + (g.ins.length : Int) + (g.regs.length : Int) ∧ 1 + (g.ins.length : Int) + (g.regs.length : Int) ≤ 1000 := by omega
      generalize 1 + (g.ins.length : Int) + (g.regs.length : Int) = nF at HF1 HFN hfb
      go_wp2_with fail
      go_loopw [69] (fun i wr => ∃ j : Nat, j ≤ g.ands.length ∧ i = .int .i64 (j : Int) ∧ Hid (andsF (baseL g) g.ands = andsF (baseL g + 2 * (j : Int)) (g.ands.drop j)) ∧ Hid (Below W0.heap.size W0 wr)) (fun i _ => g.ands.length - (intOf i).toNat)
      case atStart => exact ⟨0, Nat.zero_le _, rfl, Lib.hid (by simp), HB2⟩
      case round =>
        clear HB2
        obtain ⟨j, hj, rfl, hE, hB⟩ := hrel
        rename World => WT
        have hj0 : (0 : Int) ≤ (j : Int) := by omega
        by_cases hlt : j < g.ands.length
        · have hji : (j : Int) < (g.ands.length : Int) := by omega
          have hjb : (j : Int) ≤ 4000 := by omega
          have hwr : IntKind.i64.wrap (nF + (j : Int)) = nF + (j : Int) := IntWalk.i64_in _ (by omega)
          have HAD : Hid (andsF (baseL g) g.ands = (!hasL (nF + (j : Int)) g.ands[j]!.1 || !hasL (nF + (j : Int)) g.ands[j]!.2 || andsF (baseL g + 2 * ((j + 1 : Nat) : Int)) (g.ands.drop (j + 1)))) := Lib.hid (by
            rw [hE.out, ands_drop hlt, has_bad, has_bad, Bool.not_not, Bool.not_not, HFN.out, show 2 * nF + 2 * (j : Int) = 2 * (nF + (j : Int)) by omega, show 2 * (nF + (j : Int)) + 2 = 2 * nF + 2 * ((j + 1 : Nat) : Int) by push_cast; omega])
          obtain ⟨bb, oo, hdd, hcell⟩ := (HA.out _ hB.out).ands.pick (by omega)
          subst hdd
          have c0 := hcell j hlt 0 _ rfl
          have c1 := hcell j hlt 1 _ rfl
          simp only [Nat.add_zero] at c0
          clear hcell hE
          generalize g.ands[j]! = p at c0 c1 HAD
          generalize hrest : andsF (baseL g + 2 * ((j + 1 : Nat) : Int)) (g.ands.drop (j + 1)) = rest at HAD
          have HREST := Lib.hid hrest
          clear hrest
          obtain ⟨p1, p2⟩ := p
          simp only at c0 c1 HAD
          obtain ⟨x0, x1, x2, x3, x4⟩ := HX.out _ hB.out
          have lx := (HX.out _ hB.out).lt
          go_upto_region 20 with fail
          have bA := (Below.refl WT.heap.size WT).alloc (Nat.le_refl _) (.cells #[.int .i64 p1, .int .i64 p2] 137)
          have y0 : (WT.alloc (.cells #[.int .i64 p1, .int .i64 p2] 137)).cell? ⟨WT.heap.size, 0, none⟩ = some (.int .i64 p1) := by go_simp
          have y1 : (WT.alloc (.cells #[.int .i64 p1, .int .i64 p2] 137)).cell? ⟨WT.heap.size, 1, none⟩ = some (.int .i64 p2) := by go_simp
          have B2 := hB.out.trans (bA.mono hB.out.size)
          clear bA c0 c1 x0 x1 x2 x3 x4 lx hB
          generalize WT.alloc (.cells #[.int .i64 p1, .int .i64 p2] 137) = WS at B2 y0 y1 ⊢
          generalize WT.heap.size = q10 at y0 y1 ⊢
          obtain ⟨x0, x1, x2, x3, x4⟩ := HX.out _ B2
          have HB := Lib.hid (fun d os => B2.trans ((below_regrown WS d os).mono B2.size))
          have H2 := Lib.hid (fun W => has_any (nF + (j : Int)) p1 W)
          have H3 := Lib.hid (fun W => has_any (nF + (j : Int)) p2 W)
          have g0 := cell_regrown x0
          have g1 := cell_regrown x1
          have g2 := cell_regrown x2
          have g3 := cell_regrown x3
          have g4 := cell_regrown x4
          have z0 := cell_regrown y0
          have z1 := cell_regrown y1
          clear x0 x1 x2 x3 x4 y0 y1 B2
          generalize hasL (nF + (j : Int)) p1 = a1 at H2 HAD
          generalize hasL (nF + (j : Int)) p2 = a2 at H3 HAD
          cases a1 with
          | false =>
            have HA0 : Hid (andsF (baseL g) g.ands = true) := Lib.hid (by rw [HAD.out]; rfl)
            have HR := Lib.hid (HLR.out (.inl HA0.out))
            refine wp_region_rel 18 (by kernel_rfl) (by kernel_rfl) ?_
            simp only [List.take_succ_cons, List.take_zero, List.drop_succ_cons, List.drop_zero]
            (refine rel_fix0 (fun K hK => ?_); go_simp; refine hK _ ?_; clear hK K)
            (refine rel_fix0 (fun K hK => ?_); go_simp; apply Exists.intro; refine ⟨fun _ _ => ?_, hK _ ?_⟩; (with_reducible exact ret_fix (HF1.out _ (HB.out _ _))); clear hK K)
            (refine rel_fix0 (fun K hK => ?_); go_simp; refine hK _ ?_; clear hK K)
            (refine rel_fix0 (fun K hK => ?_); go_simp; refine hK _ ?_; clear hK K)
            (refine rel_fix0 (fun K hK => ?_); go_simp; refine hK _ ?_; clear hK K)
            (refine rel_fix0 (fun K hK => ?_); go_simp; refine hK _ ?_; clear hK K)
            (refine rel_fix0 (fun K hK => ?_); go_simp; apply Exists.intro; refine ⟨fun _ _ => ?_, hK _ ?_⟩; (with_reducible exact ret_fix (H2.out _)); clear hK K)
            (refine rel_fix0 (fun K hK => ?_); go_simp; refine hK _ ?_; clear hK K)
            (refine rel_fix0 (fun K hK => ?_); go_simp; refine hK _ ?_; clear hK K)
            (refine rel_fix0 (fun K hK => ?_); go_simp; refine hK _ ?_; clear hK K)
            (refine rel_fix0 (fun K hK => ?_); go_simp; refine hK _ ?_; clear hK K)
            (refine rel_fix0 (fun K hK => ?_); go_simp; refine hK _ ?_; clear hK K)
            (refine rel_fix0 (fun K hK => ?_); go_simp; refine hK _ ?_; clear hK K)
            (refine rel_fix0 (fun K hK => ?_); go_simp; refine hK _ ?_; clear hK K)
            (refine rel_fix0 (fun K hK => ?_); go_simp; refine hK _ ?_; clear hK K)
            (refine rel_fix0 (fun K hK => ?_); go_simp; refine hK _ ?_; clear hK K)
            (refine rel_fix0 (fun K hK => ?_); go_simp; refine hK _ ?_; clear hK K)
            (refine rel_fix0 (fun K hK => ?_); go_simp; refine hK _ ?_; clear hK K)
            refine rel_nil ?_
            intro d os
            simp only [relAll]
            have B2 := HB.out d os
            clear g0 g1 g2 g3 g4 z0 z1 HB
            generalize grow (redrawn WS d) os = WZ at B2 ⊢
            have HBZ := Lib.hid (HBEL.out.trans (B2.mono HBEL.out.size))
            go_wp2_with fail
            go_ret
            exact ⟨ret_num HR.out.symm, HBZ.out⟩
          | true =>
            cases a2 with
            | false =>
              have HA0 : Hid (andsF (baseL g) g.ands = true) := Lib.hid (by rw [HAD.out]; rfl)
              have HR := Lib.hid (HLR.out (.inl HA0.out))
              refine wp_region_rel 18 (by kernel_rfl) (by kernel_rfl) ?_
              simp only [List.take_succ_cons, List.take_zero, List.drop_succ_cons, List.drop_zero]
              (refine rel_fix0 (fun K hK => ?_); go_simp; refine hK _ ?_; clear hK K)
              (refine rel_fix0 (fun K hK => ?_); go_simp; apply Exists.intro; refine ⟨fun _ _ => ?_, hK _ ?_⟩; (with_reducible exact ret_fix (HF1.out _ (HB.out _ _))); clear hK K)
              (refine rel_fix0 (fun K hK => ?_); go_simp; refine hK _ ?_; clear hK K)
              (refine rel_fix0 (fun K hK => ?_); go_simp; refine hK _ ?_; clear hK K)
              (refine rel_fix0 (fun K hK => ?_); go_simp; refine hK _ ?_; clear hK K)
              (refine rel_fix0 (fun K hK => ?_); go_simp; refine hK _ ?_; clear hK K)
              (refine rel_fix0 (fun K hK => ?_); go_simp; apply Exists.intro; refine ⟨fun _ _ => ?_, hK _ ?_⟩; (with_reducible exact ret_fix (H2.out _)); clear hK K)
              (refine rel_fix0 (fun K hK => ?_); go_simp; refine hK _ ?_; clear hK K)
              (refine rel_fix0 (fun K hK => ?_); go_simp; refine hK _ ?_; clear hK K)
              (refine rel_fix0 (fun K hK => ?_); go_simp; refine hK _ ?_; clear hK K)
              (refine rel_fix0 (fun K hK => ?_); go_simp; apply Exists.intro; refine ⟨fun _ _ => ?_, hK _ ?_⟩; (with_reducible exact ret_fix (HF1.out _ (HB.out _ _))); clear hK K)
              (refine rel_fix0 (fun K hK => ?_); go_simp; refine hK _ ?_; clear hK K)
              (refine rel_fix0 (fun K hK => ?_); go_simp; refine hK _ ?_; clear hK K)
              (refine rel_fix0 (fun K hK => ?_); go_simp; refine hK _ ?_; clear hK K)
              (refine rel_fix0 (fun K hK => ?_); go_simp; refine hK _ ?_; clear hK K)
              (refine rel_fix0 (fun K hK => ?_); go_simp; apply Exists.intro; refine ⟨fun _ _ => ?_, hK _ ?_⟩; (with_reducible exact ret_fix (H3.out _)); clear hK K)
              (refine rel_fix0 (fun K hK => ?_); go_simp; refine hK _ ?_; clear hK K)
              (refine rel_fix0 (fun K hK => ?_); go_simp; refine hK _ ?_; clear hK K)
              refine rel_nil ?_
              intro d os
              simp only [relAll]
              have B2 := HB.out d os
              clear g0 g1 g2 g3 g4 z0 z1 HB
              generalize grow (redrawn WS d) os = WZ at B2 ⊢
              have HBZ := Lib.hid (HBEL.out.trans (B2.mono HBEL.out.size))
              go_wp2_with fail
              go_ret
              exact ⟨ret_num HR.out.symm, HBZ.out⟩
            | true =>
              have HS : Hid (andsF (baseL g) g.ands = andsF (baseL g + 2 * ((j + 1 : Nat) : Int)) (g.ands.drop (j + 1))) := Lib.hid (by rw [HREST.out, HAD.out]; rfl)
              refine wp_region_rel 18 (by kernel_rfl) (by kernel_rfl) ?_
              simp only [List.take_succ_cons, List.take_zero, List.drop_succ_cons, List.drop_zero]
              (refine rel_fix0 (fun K hK => ?_); go_simp; refine hK _ ?_; clear hK K)
              (refine rel_fix0 (fun K hK => ?_); go_simp; apply Exists.intro; refine ⟨fun _ _ => ?_, hK _ ?_⟩; (with_reducible exact ret_fix (HF1.out _ (HB.out _ _))); clear hK K)
              (refine rel_fix0 (fun K hK => ?_); go_simp; refine hK _ ?_; clear hK K)
              (refine rel_fix0 (fun K hK => ?_); go_simp; refine hK _ ?_; clear hK K)
              (refine rel_fix0 (fun K hK => ?_); go_simp; refine hK _ ?_; clear hK K)
              (refine rel_fix0 (fun K hK => ?_); go_simp; refine hK _ ?_; clear hK K)
              (refine rel_fix0 (fun K hK => ?_); go_simp; apply Exists.intro; refine ⟨fun _ _ => ?_, hK _ ?_⟩; (with_reducible exact ret_fix (H2.out _)); clear hK K)
              (refine rel_fix0 (fun K hK => ?_); go_simp; refine hK _ ?_; clear hK K)
              (refine rel_fix0 (fun K hK => ?_); go_simp; refine hK _ ?_; clear hK K)
              (refine rel_fix0 (fun K hK => ?_); go_simp; refine hK _ ?_; clear hK K)
              (refine rel_fix0 (fun K hK => ?_); go_simp; apply Exists.intro; refine ⟨fun _ _ => ?_, hK _ ?_⟩; (with_reducible exact ret_fix (HF1.out _ (HB.out _ _))); clear hK K)
              (refine rel_fix0 (fun K hK => ?_); go_simp; refine hK _ ?_; clear hK K)
              (refine rel_fix0 (fun K hK => ?_); go_simp; refine hK _ ?_; clear hK K)
              (refine rel_fix0 (fun K hK => ?_); go_simp; refine hK _ ?_; clear hK K)
              (refine rel_fix0 (fun K hK => ?_); go_simp; refine hK _ ?_; clear hK K)
              (refine rel_fix0 (fun K hK => ?_); go_simp; apply Exists.intro; refine ⟨fun _ _ => ?_, hK _ ?_⟩; (with_reducible exact ret_fix (H3.out _)); clear hK K)
              (refine rel_fix0 (fun K hK => ?_); go_simp; refine hK _ ?_; clear hK K)
              (refine rel_fix0 (fun K hK => ?_); go_simp; refine hK _ ?_; clear hK K)
              refine rel_nil ?_
              intro d os
              simp only [relAll]
              have B2 := HB.out d os
              clear g0 g1 g2 g3 g4 z0 z1 HB
              generalize grow (redrawn WS d) os = WZ at B2 ⊢
              have HBZ := Lib.hid B2
              go_wp2_with fail
              go_roundw
              case rel => exact ⟨j + 1, by omega, by go_num, HS, HBZ⟩
              all_goals first | done | (simp [intOf]; done) | (simp [intOf]; omega)
        · have hji : ¬ (j : Int) < (g.ands.length : Int) := by omega
          have HA0 : Hid (andsF (baseL g) g.ands = false) := Lib.hid (by rw [hE.out, List.drop_of_length_le (by omega)]; rfl)
          have HR : Hid (faultG g = rootsE (1 + (g.ins.length : Int) + (g.regs.length : Int) + (g.ands.length : Int)) (goalsL g)) := Lib.hid (by
            rw [rootsE_eq]
            split
            · rename_i hh; exact HLR.out (.inr hh)
            · rename_i hh; exact HLO.out (fun h => h.elim (fun h0 => by rw [HA0.out] at h0; cases h0) hh))
          have B2 := hB.out
          have HB := Lib.hid (fun d os => B2.trans ((below_regrown WT d os).mono B2.size))
          have H4 := Lib.hid (fun W (hb : Below W0.heap.size W0 W) => roots_holds g _ W sg (HG.out W hb))
          have H5 := Lib.hid (fun u W (hb : Below W0.heap.size W0 W) (hr : RowOf 1 encI (goalsL g) u W) => checkRoots_any g _ (goalsL g) u W sg (by unfold goalsL; simp; omega) (HG.out W hb) hr)
          obtain ⟨x0, x1, x2, x3, x4⟩ := HX.out _ B2
          generalize goalsL g = L at H4 H5 HR
          generalize rootsE (1 + (g.ins.length : Int) + (g.regs.length : Int) + (g.ands.length : Int)) L = R0 at H5 HR
          clear hE hB B2
          go_upto_region 23 with fail
          have g0 := cell_regrown x0
          have g1 := cell_regrown x1
          have g2 := cell_regrown x2
          have g3 := cell_regrown x3
          have g4 := cell_regrown x4
          clear x0 x1 x2 x3 x4
          refine wp_region_rel 4 (by kernel_rfl) (by kernel_rfl) ?_
          simp only [List.take_succ_cons, List.take_zero, List.drop_succ_cons, List.drop_zero]
          (refine rel_fix0 (fun K hK => ?_); go_simp; refine hK _ ?_; clear hK K)
          (refine rel_fix0 (fun K hK => ?_); go_simp; refine hK _ ?_; clear hK K)
          refine rel_fact [] (RowOf 1 encI L) 95 rfl (by simp [Act.put]) (row_sta _ _ _) (by rfl) (by kernel_rfl) (by kernel_rfl) ?_ ?_
          · intro d os
            simp only [relAll]
            go_simp
            exact ret_fact (H4.out _ (HB.out _ _))
          refine rel_use [(95, _)] (.int .i64 R0) (by rfl) (by kernel_rfl) (by kernel_rfl) ?_ ?_
          · intro d os
            simp only [relAll]
            rintro u1 r1
            go_simp
            exact ret_fix (H5.out _ _ (HB.out _ _) r1)
          refine rel_nil ?_
          intro d os
          simp only [relAll]
          rintro v95 -
          have B2 := HB.out d os
          clear g0 g1 g2 g3 g4 HB
          generalize grow (redrawn WT d) os = WZ at B2 ⊢
          have HBZ := Lib.hid (HBEL.out.trans (B2.mono HBEL.out.size))
          go_wp2_with fail
          go_ret
          exact ⟨ret_num HR.out.symm, HBZ.out⟩
theorem check_holds : CheckC := fun g v w sg hG => check_any g v sg w hG
end Go.Proofs.Ytcpifmhcebfglaa
