/- The program's Form: what it answers. Condition: the sizes of a netlist that came in. -/
import Derived.Test.YtimojbjamfckmaaNlP1
import Derived.Test.YtimojbjamfckmaaGpN
namespace Go.Proofs.Ytimojbjamfckmaa
open Go Go.RowKit Go.Sort
set_option linter.unusedVariables false
set_option maxRecDepth 100000 in
set_option maxHeartbeats 16000000 in
theorem form_any (n : Nl) (v : Value) (sg : SmN n) (w : World) (hG : NO n v w) : Calls Try.prog 18 #[v] w fun e w' => e = .returned (.int .i64 (faultN n)) ∧ Below w.heap.size w w' := by
  have hG0 := hG
  obtain ⟨a, b, c, d0, e, a', b', c', d', e', rfl, hC, hA⟩ := hG.all
  clear hG
  have s1 := sg.ins
  have s2 := sg.outN
  have s3 := sg.flops
  have s4 := sg.gates
  have s5 := sg.outs
  go_enter Try.func18, Try.ntmps18
  go_upto_region 1 with fail
  have bel := (Below.refl w.heap.size w).alloc (Nat.le_refl _) (.cells #[.slice a n.ins.length a', .slice b n.outN.length b', .slice c n.flops.length c', .slice d0 n.gates.length d', .slice e n.outs.length e'] 27)
  have X := GX.new w (.slice a n.ins.length a') (.slice b n.outN.length b') (.slice c n.flops.length c') (.slice d0 n.gates.length d') (.slice e n.outs.length e') 27
  generalize w.alloc (.cells #[.slice a n.ins.length a', .slice b n.outN.length b', .slice c n.flops.length c', .slice d0 n.gates.length d', .slice e n.outs.length e'] 27) = W0 at bel X ⊢
  generalize hk : w.heap.size = k at X ⊢
  have HK := Lib.hid hk
  clear hk
  obtain ⟨x0, x1, x2, x3, x4⟩ := id X
  have HLA := Lib.hid (@faultN_large n)
  by_cases h1 : 128 < n.ins.length
  · have q1 : (128 : Int) < (n.ins.length : Int) := by omega
    go_wp2_with fail
    go_ret
    exact ⟨ret_num (HLA.out (.inl h1)).symm, bel⟩
  have q1 : ¬ (128 : Int) < (n.ins.length : Int) := by omega
  by_cases h2 : 128 < n.outN.length
  · have q2 : (128 : Int) < (n.outN.length : Int) := by omega
    go_wp2_with fail
    go_ret
    exact ⟨ret_num (HLA.out (.inr (.inl h2))).symm, bel⟩
  have q2 : ¬ (128 : Int) < (n.outN.length : Int) := by omega
  by_cases h3 : 288 < n.flops.length
  · have q3 : (288 : Int) < (n.flops.length : Int) := by omega
    go_wp2_with fail
    go_ret
    exact ⟨ret_num (HLA.out (.inr (.inr (.inl h3)))).symm, bel⟩
  have q3 : ¬ (288 : Int) < (n.flops.length : Int) := by omega
  by_cases h4 : 1200 < n.gates.length
  · have q4 : (1200 : Int) < (n.gates.length : Int) := by omega
    go_wp2_with fail
    go_ret
    exact ⟨ret_num (HLA.out (.inr (.inr (.inr h4)))).symm, bel⟩
  have q4 : ¬ (1200 : Int) < (n.gates.length : Int) := by omega
  have hl : ¬ (128 < n.ins.length ∨ 128 < n.outN.length ∨ 288 < n.flops.length ∨ 1200 < n.gates.length) := by omega
  have HLF := Lib.hid (@faultN_form n hl)
  have HNX := Lib.hid (@faultN_next n hl)
  clear HLA hl h1 h2 h3 h4
  by_cases h5 : n.outs.length = n.outN.length
  rotate_left
  · have q5 : ((n.outs.length : Int) == (n.outN.length : Int)) = false := beq_eq_false_iff_ne.2 (by omega)
    have q6 : ¬ (n.outs.length : Int) = (n.outN.length : Int) := by omega
    have HF := Lib.hid (HLF.out h5)
    clear h5 HLF HNX
    go_wp2_with fail
    go_ret
    exact ⟨ret_num HF.out.symm, bel⟩
  have H5 := Lib.hid h5
  have q5 : ((n.outs.length : Int) == (n.outN.length : Int)) = true := beq_iff_eq.2 (by omega)
  have q6 : ((n.outs.length : Int) != (n.outN.length : Int)) = false := by simp [bne, q5]
  replace HNX := Lib.hid (HNX.out (fun h => h h5))
  clear h5 HLF
  have H1 := Lib.hid (cloneNT_any n.ins _ W0 (by omega) (RowOf.mk hC.ins (hA.ins.below bel)))
  go_upto_region 5 with fail
  clear q5 q6
  have HX := Lib.hid (fun W (hb : Below W0.heap.size W0 W) => X.below hb)
  have HA := Lib.hid (fun W (hb : Below W0.heap.size W0 W) => hA.below (bel.trans (hb.mono bel.size)))
  have HG := Lib.hid (fun W (hb : Below w.heap.size w W) => hG0.below hb)
  have HBEL := Lib.hid bel
  have HC := Lib.hid hC
  have HSG := Lib.hid sg
  clear hA hG0 hC sg X
  go_upto_region 6 with (first | (go_at_call 67; refine H1.out.mono ?_; rintro ee w1 ⟨u, rfl, O1, B1⟩))
  clear x0 x1 x2 x3 x4 H1
  obtain ⟨x0, x1, x2, x3, x4⟩ := HX.out _ B1
  obtain ⟨i0, ihi, ihz, ihs, ihb⟩ := infoNS_parts
  go_upto_block 0 with fail
  clear x0 x1 x2 x3 x4
  go_wp2_with fail
  go_loopw [3, 46] (fun u i wr => ∃ j : Nat, j ≤ n.flops.length ∧ i = .int .i64 (j : Int) ∧ Hid (OwnK W0.heap.size 9 1 encT wr u (n.ins ++ (n.flops.take j).map (·.nm))) ∧ Hid (Below W0.heap.size W0 wr)) (fun _ i _ => n.flops.length - (intOf i).toNat)
  case atStart => exact ⟨0, Nat.zero_le _, rfl, Lib.hid (by simpa using O1), Lib.hid B1⟩
  case round =>
    clear O1 B1
    obtain ⟨j, hj, rfl, hO, hB⟩ := hrel
    rename World => WR
    have hj0 : (0 : Int) ≤ (j : Int) := by omega
    by_cases hlt : j < n.flops.length
    · have hji : (j : Int) < (n.flops.length : Int) := by omega
      have HT := Lib.hid (show n.ins ++ (n.flops.take (j + 1)).map (·.nm) = (n.ins ++ (n.flops.take j).map (·.nm)) ++ [n.flops[j]!.nm] by rw [tk1 _ hlt, List.map_append, List.append_assoc]; rfl)
      have HL : (n.ins ++ (n.flops.take j).map (·.nm)).length ≤ 9000000000 := by simp; omega
      obtain ⟨bb, oo, hdd, hcell⟩ := (HA.out _ hB.out).flops.pick (by omega)
      subst hdd
      have c0 := hcell j hlt 0 _ rfl
      have c1 := hcell j hlt 1 _ rfl
      have c2 := hcell j hlt 2 _ rfl
      have c3 := hcell j hlt 3 _ rfl
      have c4 := hcell j hlt 4 _ rfl
      simp only [Nat.add_zero] at c0
      clear hcell
      generalize n.ins ++ (n.flops.take j).map (·.nm) = L at HT HL hO
      generalize n.flops[j]! = r at c0 c1 c2 c3 c4 HT
      obtain ⟨r0, r1, r2, r3, r4⟩ := r
      simp only at c0 c1 c2 c3 c4 HT
      obtain ⟨ad, cp, hv⟩ := hO.out.slice
      subst hv
      go_upto_region 9 with fail
      have bA := (Below.refl WR.heap.size WR).alloc (Nat.le_refl _) (.cells #[.string r0, .int .i64 r1, .int .i64 r2, .int .i64 r3, .bool r4] 84)
      have y0 : (WR.alloc (.cells #[.string r0, .int .i64 r1, .int .i64 r2, .int .i64 r3, .bool r4] 84)).cell? ⟨WR.heap.size, 0, none⟩ = some (.string r0) := by go_simp
      have O2 := hO.out.below bA
      have B2 := hB.out.trans (bA.mono hB.out.size)
      have hs2 := B2.size
      clear bA c0 c1 c2 c3 c4
      generalize WR.alloc (.cells #[.string r0, .int .i64 r1, .int .i64 r2, .int .i64 r3, .bool r4] 84) = WS at O2 B2 hs2 y0 ⊢
      generalize WR.heap.size = q10 at y0 ⊢
      have O4 := O2.below ((Below.refl _ WS).alloc (Nat.le_refl _) (.cells #[.string r0] 9))
      have hy : ∀ (q : Nat) (u : Value), (encT r0)[q]? = some u → (WS.alloc (.cells #[.string (r0)] 9)).cell? ⟨WS.heap.size, q, none⟩ = some u := by
        intro q u hq
        match q, hq with
        | 0, hq => cases hq; go_simp
      go_wp2_with (at_builtin; refine wpList_append_one (enc := encT) (k := 1) (fun _ => rfl) (by decide) (fun x u hu => by simp at hu; rcases hu with rfl; rfl) rfl _ _ 22 rfl (W0.heap.size) 9 i0 (.string ⟨#[]⟩) 16 Try.underlying22 ihi ihz ihs ihb (by decide) _ L rfl O4 WS.heap.size 1 (r0) rfl hy (show L.length + 1 ≤ maxLen by unfold maxLen; omega) (show (L.length + 1) * 16 ≤ 140737488355328 by omega) (by first | omega | (simp; omega)) ?_)
      intro v5 w5 O5 hb5 hg5
      have HO5 := Lib.hid O5
      have HB5 := Lib.hid (B2.trans (((Below.refl _ WS).alloc hs2 _).trans hb5))
      clear O5 hb5 hg5 O4 hy hO hB y0 O2 B2
      go_wp2_with fail
      go_roundw
      case rel => exact ⟨j + 1, by omega, by go_num, (by rw [HT.out]; exact HO5), HB5⟩
      all_goals first | done | (simp [intOf]; done) | (simp [intOf]; omega)
    · have hji : ¬ (j : Int) < (n.flops.length : Int) := by omega
      have hO2 := hO.out
      rw [List.take_of_length_le (by omega), show n.ins ++ n.flops.map (·.nm) = innL n from rfl] at hO2
      have hB2 := hB.out
      obtain ⟨hn1, hn2⟩ := innL_sizes HSG.out
      clear hO hB hlt
      have HQ1 := Lib.hid (names_any (innL n) _ (by omega) (fun x hx => by have := hn2 x hx; omega) WR (hO2.row lenT1))
      have HQ2 := Lib.hid (fun W (hb : Below W0.heap.size W0 W) => names_any n.outN _ (by omega) (fun x hx => by have := HSG.out.outT x hx; omega) W (RowOf.mk HC.out.outN (HA.out _ hb).outN))
      obtain ⟨x0, x1, x2, x3, x4⟩ := HX.out _ hB2
      obtain ⟨ad3, cp3, hv3⟩ := hO2.slice
      subst hv3
      clear hO2 hn1 hn2
      generalize namesF (innL n) = e1 at HQ1 HNX
      generalize namesF n.outN = e2 at HQ2 HNX
      by_cases h1 : e1 = 0
      rotate_left
      · have q5 : (e1 == 0) = false := beq_eq_false_iff_ne.2 h1
        have q6 : (e1 != 0) = true := by simp [bne, q5]
        have HF := Lib.hid (show faultN n = e1 by rw [HNX.out, if_pos h1])
        clear h1
        go_wp2_with (first | (go_at_call 68; refine HQ1.out.mono ?_; rintro ee w3 ⟨rfl, hb3⟩))
        go_ret
        exact ⟨ret_num HF.out.symm, HBEL.out.trans ((hB2.trans (hb3.mono hB2.size)).mono HBEL.out.size)⟩
      subst h1
      go_upto_region 14 with (first | (go_at_call 68; refine HQ1.out.mono ?_; rintro ee W3 ⟨rfl, hb3⟩))
      have hB3 := hB2.trans (hb3.mono hB2.size)
      clear x0 x1 x2 x3 x4 hB2 hb3 HQ1
      obtain ⟨x0, x1, x2, x3, x4⟩ := HX.out _ hB3
      have HQ3 := Lib.hid (HQ2.out _ hB3)
      by_cases h2 : e2 = 0
      rotate_left
      · have q5 : (e2 == 0) = false := beq_eq_false_iff_ne.2 h2
        have q6 : (e2 != 0) = true := by simp [bne, q5]
        have HF := Lib.hid (show faultN n = e2 by rw [HNX.out, if_neg (fun h => h rfl), if_pos h2])
        clear h2
        go_wp2_with (first | (go_at_call 68; refine HQ3.out.mono ?_; rintro ee w3 ⟨rfl, hb3⟩))
        go_ret
        exact ⟨ret_num HF.out.symm, HBEL.out.trans ((hB3.trans (hb3.mono hB3.size)).mono HBEL.out.size)⟩
      subst h2
      go_upto_region 17 with (first | (go_at_call 68; refine HQ3.out.mono ?_; rintro ee W4 ⟨rfl, hb4⟩))
      have hB4 := hB3.trans (hb4.mono hB3.size)
      clear x0 x1 x2 x3 x4 hB3 hb4 HQ2 HQ3
      have HN2 := Lib.hid (show faultN n = if gatesF (fstN n : Nat) n.gates ≠ 0 then gatesF (fstN n : Nat) n.gates else endsF n by rw [HNX.out, if_neg (fun h => h rfl), if_neg (fun h => h rfl)])
      clear HNX
      have HNG := Lib.hid (fun (e : Int) (he : e ≠ 0) (h : gatesF (fstN n : Nat) n.gates = e) => show faultN n = e by rw [HN2.out, h, if_pos he])
      have HNE := Lib.hid (fun (h : gatesF (fstN n : Nat) n.gates = 0) => show faultN n = endsF n by rw [HN2.out, h, if_neg (fun h => h rfl)])
      have HRT := Lib.hid (ends_roots n)
      have HR1 := Lib.hid (fun W (hb : Below w.heap.size w W) => (roots_anyN n _ HSG.out W (HG.out _ hb)).mono fun e w' ⟨u, h1, h2, h3⟩ => show ∃ u, e = Ending.returned u ∧ RowOf 1 encI (rootsP n) u w' ∧ Below W.heap.size W w' from ⟨u, h1, h2.row lenJ, h3⟩)
      have HN1 := Lib.hid (fun W (hb : Below w.heap.size w W) => nnets_any n _ HSG.out W (HG.out _ hb))
      have HCN := Lib.hid (fun v2 W2 h => checkNets_any (netsN n : Nat) (rootsP n) v2 (by unfold rootsP; rw [List.length_append, flat2_len]; omega) W2 h)
      have HF1 := Lib.hid (fun W (hb : Below w.heap.size w W) => nfirst_any n _ HSG.out W (HG.out _ hb))
      have hf1 : ((fstN n : Nat) : Int) ≤ 10000000 := by unfold fstN; push_cast; omega
      have hf0 : 0 ≤ ((fstN n : Nat) : Int) := by omega
      clear HN2
      generalize ((netsN n : Nat) : Int) = m at HRT HN1 HCN
      generalize ((fstN n : Nat) : Int) = F0 at HNG HNE HF1 hf0 hf1
      obtain ⟨x0, x1, x2, x3, x4⟩ := HX.out _ hB4
      go_upto_block 2 with fail
      clear x0 x1 x2 x3 x4
      go_wp2_with fail
      go_loopw [70] (fun i wr => ∃ j : Nat, j ≤ n.gates.length ∧ i = .int .i64 (j : Int) ∧ Hid (gatesF F0 n.gates = gatesF (F0 + j) (n.gates.drop j)) ∧ Hid (Below W0.heap.size W0 wr)) (fun i _ => n.gates.length - (intOf i).toNat)
      case atStart => exact ⟨0, Nat.zero_le _, rfl, Lib.hid (by simp), Lib.hid hB4⟩
      case round =>
        clear hB4
        obtain ⟨j, hj, rfl, hE, hB⟩ := hrel
        rename World => WG
        have hj0 : (0 : Int) ≤ (j : Int) := by omega
        by_cases hlt : j < n.gates.length
        · have hji : (j : Int) < (n.gates.length : Int) := by omega
          have HD := Lib.hid (show gatesF F0 n.gates = if gateF (F0 + j) n.gates[j]! ≠ 0 then gateF (F0 + j) n.gates[j]! else gatesF (F0 + ((j + 1 : Nat) : Int)) (n.gates.drop (j + 1)) by rw [hE.out, gates_drop hlt, show F0 + (j : Int) + 1 = F0 + ((j + 1 : Nat) : Int) by omega])
          have hA1 := HA.out _ hB.out
          have hI := hA1.each j hlt
          have hg6 := HSG.out.gateI j hlt
          obtain ⟨bb, oo, hdd, hcell⟩ := hA1.gates.pick (by omega)
          subst hdd
          have c0 := hcell j hlt 0 _ rfl
          have c1 := hcell j hlt 1 _ rfl
          have c2 := hcell j hlt 2 _ rfl
          simp only [Nat.add_zero] at c0
          clear hcell hA1 hE
          have hm0 : 0 ≤ F0 + (j : Int) := by omega
          have hm1 : F0 + (j : Int) ≤ 100000000 := by omega
          have HFG0 := Lib.hid (fun W hI => formGate_any n.gates[j]! (F0 + (j : Int)) hg6 W hI)
          generalize n.gates[j]! = y at c0 c1 c2 HD hI hg6 HFG0
          obtain ⟨y0, y1, y2, y3, y4⟩ := y
          simp only at c0 c1 c2 HD hg6 HFG0
          have hB5 := hB.out
          clear hB
          have hwm : IntKind.i64.wrap (F0 + (j : Int)) = F0 + (j : Int) := IntWalk.i64_in _ (by omega)
          go_upto_region 20 with fail
          have bA := (Below.refl WG.heap.size WG).alloc (Nat.le_refl _) (.cells #[.int .i64 y0, .int .u64 (U y1), .slice y3 y2.length y4] 82)
          have z0 : (WG.alloc (.cells #[.int .i64 y0, .int .u64 (U y1), .slice y3 y2.length y4] 82)).cell? ⟨WG.heap.size, 0, none⟩ = some (.int .i64 y0) := by go_simp
          have z1 : (WG.alloc (.cells #[.int .i64 y0, .int .u64 (U y1), .slice y3 y2.length y4] 82)).cell? ⟨WG.heap.size, 1, none⟩ = some (.int .u64 (U y1)) := by go_simp
          have z2 : (WG.alloc (.cells #[.int .i64 y0, .int .u64 (U y1), .slice y3 y2.length y4] 82)).cell? ⟨WG.heap.size, 2, none⟩ = some (.slice y3 y2.length y4) := by go_simp
          have hB6 := hB5.trans (bA.mono hB5.size)
          have hI6 := hI.below bA
          clear c0 c1 c2 bA hI hB5
          generalize WG.alloc (.cells #[.int .i64 y0, .int .u64 (U y1), .slice y3 y2.length y4] 82) = WH at z0 z1 z2 hB6 hI6 ⊢
          generalize WG.heap.size = q10 at z0 z1 z2 ⊢
          obtain ⟨x0, x1, x2, x3, x4⟩ := HX.out _ hB6
          have HBS := Lib.hid (fun d os => below_regrown WH d os)
          have HFG := Lib.hid (fun W (hb : Below WH.heap.size WH W) => HFG0.out W (hI6.below hb))
          have HB1 := Lib.hid (fun d os => HBEL.out.trans ((hB6.trans ((below_regrown WH d os).mono hB6.size)).mono HBEL.out.size))
          have HB8 := Lib.hid (fun d os => hB6.trans ((below_regrown WH d os).mono hB6.size))
          have g5 := cell_regrown z0
          have g6 := cell_regrown z1
          have g7 := cell_regrown z2
          have g0 := cell_regrown x0
          have g1 := cell_regrown x1
          have g2 := cell_regrown x2
          have g3 := cell_regrown x3
          have g4 := cell_regrown x4
          clear x0 x1 x2 x3 x4 z0 z1 z2 hI6 HFG0
          generalize gateF (F0 + (j : Int)) ⟨y0, y1, y2, y3, y4⟩ = ge at HD HFG
          refine wp_region_rel 7 (by kernel_rfl) (by kernel_rfl) ?_
          simp only [List.take_succ_cons, List.take_zero, List.drop_succ_cons, List.drop_zero]
          (refine rel_fix0 (fun K hK => ?_); go_simp; refine hK _ ?_; clear hK K)
          (refine rel_fix0 (fun K hK => ?_); go_simp; refine hK _ ?_; clear hK K)
          (refine rel_fix0 (fun K hK => ?_); go_simp; apply Exists.intro; refine ⟨fun _ _ => ?_, hK _ ?_⟩; (with_reducible exact ret_fix (HF1.out _ (HB1.out _ _))); clear hK K)
          (refine rel_fix0 (fun K hK => ?_); go_simp; refine hK _ ?_; clear hK K)
          (refine rel_fix0 (fun K hK => ?_); go_simp; refine hK _ ?_; clear hK K)
          (refine rel_fix0 (fun K hK => ?_); go_simp; apply Exists.intro; refine ⟨fun _ _ => ?_, hK _ ?_⟩; (with_reducible exact ret_fix (HFG.out _ (HBS.out _ _))); clear hK K)
          (refine rel_fix0 (fun K hK => ?_); go_simp; refine hK _ ?_; clear hK K)
          refine rel_nil ?_
          intro d os
          simp only [relAll]
          have HB9 := Lib.hid (HB1.out d os)
          have HB7 := Lib.hid (HB8.out d os)
          clear g0 g1 g2 g3 g4 g5 g6 g7 HBS HFG HB1 HB8 hB6
          generalize grow (redrawn _ d) os = W5 at HB9 HB7 ⊢
          by_cases hge : ge = 0
          · subst hge
            have HE2 := Lib.hid (show gatesF F0 n.gates = gatesF (F0 + ((j + 1 : Nat) : Int)) (n.gates.drop (j + 1)) by rw [HD.out]; rfl)
            clear HD
            go_wp2_with fail
            go_roundw
            case rel => exact ⟨j + 1, by omega, by go_num, HE2, HB7⟩
            all_goals first | done | (simp [intOf]; done) | (simp [intOf]; omega)
          · have q5 : (ge == 0) = false := beq_eq_false_iff_ne.2 hge
            have q6 : (ge != 0) = true := by simp [bne, q5]
            have HF := Lib.hid (HNG.out ge hge (by rw [HD.out, if_pos hge]))
            clear HD hge
            go_wp2_with fail
            go_ret
            exact ⟨ret_num HF.out.symm, HB9.out⟩
        · have hji : ¬ (j : Int) < (n.gates.length : Int) := by omega
          have hjj : j = n.gates.length := by omega
          have HN3 := Lib.hid (show faultN n = checkE m (rootsP n) by rw [HNE.out (by rw [hE.out, hjj, List.drop_of_length_le (Nat.le_refl _)]; rfl), HRT.out])
          have hB7 := hB.out
          clear hB hE HNE HNG hjj
          obtain ⟨x0, x1, x2, x3, x4⟩ := HX.out _ hB7
          go_upto_region 24 with fail
          have HB1 := Lib.hid (fun d os => HBEL.out.trans ((hB7.trans ((below_regrown WG d os).mono hB7.size)).mono HBEL.out.size))
          have g0 := cell_regrown x0
          have g1 := cell_regrown x1
          have g2 := cell_regrown x2
          have g3 := cell_regrown x3
          have g4 := cell_regrown x4
          clear x0 x1 x2 x3 x4
          generalize rootsP n = LR at HR1 HCN HN3
          refine wp_region_rel 6 (by kernel_rfl) (by kernel_rfl) ?_
          simp only [List.take_succ_cons, List.take_zero, List.drop_succ_cons, List.drop_zero]
          (refine rel_fix0 (fun K hK => ?_); go_simp; refine hK _ ?_; clear hK K)
          refine rel_fact [] (RowOf 1 encI LR) 86 rfl (by simp [Act.put]) (row_sta _ _ _) (by rfl) (by kernel_rfl) (by kernel_rfl) ?_ ?_
          · intro d os
            simp only [relAll]
            go_simp
            exact ret_fact (HR1.out _ (HB1.out _ _))
          (refine rel_fix (by kernel_rfl) (by kernel_rfl) (fun K hK => ?_); go_simp; refine hK _ ?_; clear hK K)
          (refine rel_fix (by kernel_rfl) (by kernel_rfl) (fun K hK => ?_); go_simp; apply Exists.intro; refine ⟨fun _ _ => ?_, hK _ ?_⟩; (with_reducible exact ret_fix (HN1.out _ (HB1.out _ _))); clear hK K)
          refine rel_use [(86, _)] (.int .i64 (checkE m LR)) (by rfl) (by kernel_rfl) (by kernel_rfl) ?_ ?_
          · intro d os
            simp only [relAll]
            rintro u1 r1
            go_simp
            exact ret_fix (HCN.out _ _ r1)
          (refine rel_fix (by kernel_rfl) (by kernel_rfl) (fun K hK => ?_); go_simp; refine hK _ ?_; clear hK K)
          refine rel_nil ?_
          intro d os
          simp only [relAll]
          rintro v86 -
          have HB9 := Lib.hid (HB1.out d os)
          clear g0 g1 g2 g3 g4 HB1
          generalize grow (redrawn _ d) os = W5 at HB9 ⊢
          go_wp2_with fail
          go_ret
          exact ⟨ret_num HN3.out.symm, HB9.out⟩
end Go.Proofs.Ytimojbjamfckmaa
