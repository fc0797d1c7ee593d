/- The program's Strash: what it answers. Condition: rows of at most 4,000,000,000 elements. -/
import Derived.Test.YtbphhcjepeamcaaMgPd
import Derived.Test.YtbphhcjepeamcaaGlSt
namespace Go.Proofs.Ytbphhcjepeamcaa
open Go Go.RowKit Go.Sort
set_option linter.unusedVariables false
theorem go_sta (g : Gr) : Sta (fun u w => GO g u w) := fun v w w' h hb => h.below hb
set_option maxRecDepth 100000 in
set_option maxHeartbeats 16000000 in
theorem strash_any (g : Gr) (v : Value) (w : World) (sg : Small g) (hG : GO g v w) : Calls Try.prog 64 #[v] w fun e w' => ∃ u vp, e = .returned (.tuple #[u, vp, .int .i64 (faultG g)]) ∧ GO (strG g) u w' ∧ RowOf 1 encI (sltG g) vp w' ∧ Below w.heap.size w w' := by
  have hG0 := hG
  obtain ⟨a, b, c, d0, e, a', b', c', d', e', rfl, hC, hA⟩ := hG.all
  clear hG
  go_enter Try.func64, Try.ntmps64
  go_upto_region 1 with fail
  have bel := ((Below.refl w.heap.size w).alloc (Nat.le_refl _) (.cells #[.slice a g.ins.length a', .slice b g.outN.length b', .slice c g.regs.length c', .slice d0 g.ands.length d', .slice e g.outs.length e'] 28)).alloc (by simp) (.cells #[.slice none 0 0, .slice none 0 0, .slice none 0 0, .slice none 0 0, .slice none 0 0] 28)
  have X := (GX.new w (.slice a g.ins.length a') (.slice b g.outN.length b') (.slice c g.regs.length c') (.slice d0 g.ands.length d') (.slice e g.outs.length e') 28).below ((Below.refl _ _).alloc (Nat.le_refl _) (.cells #[.slice none 0 0, .slice none 0 0, .slice none 0 0, .slice none 0 0, .slice none 0 0] 28))
  have Y : BG (w.heap.size + 1) (.slice none 0 0) (.slice none 0 0) (.slice none 0 0) (.slice none 0 0) (.slice none 0 0) ((w.alloc (.cells #[.slice a g.ins.length a', .slice b g.outN.length b', .slice c g.regs.length c', .slice d0 g.ands.length d', .slice e g.outs.length e'] 28)).alloc (.cells #[.slice none 0 0, .slice none 0 0, .slice none 0 0, .slice none 0 0, .slice none 0 0] 28)) := by
    have := Arr.allocV (w.alloc (.cells #[.slice a g.ins.length a', .slice b g.outN.length b', .slice c g.regs.length c', .slice d0 g.ands.length d', .slice e g.outs.length e'] 28)) [.slice none 0 0, .slice none 0 0, .slice none 0 0, .slice none 0 0, .slice none 0 0] 28
    rwa [show (w.alloc (.cells #[.slice a g.ins.length a', .slice b g.outN.length b', .slice c g.regs.length c', .slice d0 g.ands.length d', .slice e g.outs.length e'] 28)).heap.size = w.heap.size + 1 by simp] at this
  generalize (w.alloc (.cells #[.slice a g.ins.length a', .slice b g.outN.length b', .slice c g.regs.length c', .slice d0 g.ands.length d', .slice e g.outs.length e'] 28)).alloc (.cells #[.slice none 0 0, .slice none 0 0, .slice none 0 0, .slice none 0 0, .slice none 0 0] 28) = W0 at bel X Y ⊢
  have H0 := Lib.hid (check_any g _ sg W0 (hG0.below bel))
  have HG := Lib.hid (fun W (hb : Below w.heap.size w W) => hG0.below hb)
  have HA := Lib.hid (fun W (hb : Below w.heap.size w W) => hA.below hb)
  generalize hk : w.heap.size = k at X Y bel HG HA ⊢
  have HK := Lib.hid hk
  clear hk hA hC hG0
  obtain ⟨x0, x1, x2, x3, x4⟩ := id X
  by_cases hz : faultG g = 0
  rotate_left
  · have HR : Hid (strG g = nilG) := Lib.hid (if_neg hz)
    have HR2 : Hid (sltG g = []) := Lib.hid (if_neg hz)
    generalize hf : faultG g = f at H0 hz
    have HFQ := Lib.hid hf
    clear hf
    have hz2 : (f == 0) = false := beq_eq_false_iff_ne.2 hz
    go_wp2_with (first | (go_at_call 29; refine H0.out.mono ?_; rintro ee W1 ⟨rfl, hb1⟩; have Y1 := Arr.below Y hb1; have f0 := Arr.free Y1 0; have f1 := Arr.free Y1 1; have f2 := Arr.free Y1 2; have f3 := Arr.free Y1 3; have f4 := Arr.free Y1 4; have lk1 := Arr.lt Y1; obtain ⟨z0, z1, z2, z3, z4⟩ := id (BG.gx Y1)))
    have YF := BG.gx (BG.all Y1 (.slice none 0 0) (.slice none 0 0) (.slice none 0 0) (.slice none 0 0) (.slice none 0 0))
    have BF := b5_mono (bel.trans (hb1.mono (by have := Arr.lt Y; omega))) (Nat.le_succ k) (.slice none 0 0) (.slice none 0 0) (.slice none 0 0) (.slice none 0 0) (.slice none 0 0)
    unfold put5 at YF BF
    clear f0 f1 f2 f3 f4 z0 z1 z2 z3 z4
    generalize ((((W1.setCell ⟨k + 1, 0, none⟩ (.slice none 0 0)).setCell ⟨k + 1, 1, none⟩ (.slice none 0 0)).setCell ⟨k + 1, 2, none⟩ (.slice none 0 0)).setCell ⟨k + 1, 3, none⟩ (.slice none 0 0)).setCell ⟨k + 1, 4, none⟩ (.slice none 0 0) = WF at YF BF ⊢
    obtain ⟨z0, z1, z2, z3, z4⟩ := YF
    exact bodyPost_ret (v := .tuple #[.agg #[.slice none 0 0, .slice none 0 0, .slice none 0 0, .slice none 0 0, .slice none 0 0], .slice none 0 0, .int .i64 f]) (by simp [results, Try.results64, go_sem, z0, z1, z2, z3, z4]) rfl ⟨_, _, by rw [HFQ.out], by rw [HR.out]; exact nil_go _, by rw [HR2.out]; exact RowOf.nil, by rw [HK.out]; exact BF⟩
  have vg := vg_of hz
  have HR : Hid (strG g = hashG g) := Lib.hid (if_pos hz)
  have HR2 : Hid (sltG g = litsG g) := Lib.hid (if_pos hz)
  have HZ := Lib.hid hz
  rw [hz] at H0
  clear hz
  have n1 := vg.ins
  have n2 := vg.regs
  have n3 := vg.ands
  go_upto_region 4 with (first | (go_at_call 29; refine H0.out.mono ?_; rintro ee W1 ⟨rfl, hb1⟩))
  have hlkY := Arr.lt Y
  have B1 := bel.trans (hb1.mono (by omega))
  have X1 := X.below hb1
  have Y1 := Arr.below Y hb1
  clear x0 x1 x2 x3 x4 X Y hb1 bel H0 hlkY
  obtain ⟨x0, x1, x2, x3, x4⟩ := id X1
  have lk1 := Arr.lt Y1
  have hN0 : ((n0L g : Nat) : Int) = 1 + (g.ins.length : Int) + (g.regs.length : Int) := by unfold n0L; omega
  have HN0 := Lib.hid hN0
  clear hN0
  have HX := Lib.hid (fun W (hb : Below W1.heap.size W1 W) => X1.below hb)
  have HY := Lib.hid (fun W (hb : Below W1.heap.size W1 W) => Arr.below Y1 hb)
  have HBB := Lib.hid (fun W (hb : Below W1.heap.size W1 W) => B1.trans (hb.mono (by omega)))
  have HF1 := Lib.hid (fun W (hb : Below W1.heap.size W1 W) => show Calls Try.prog 20 _ W fun e w' => e = .returned (.int .i64 (n0L g : Int)) ∧ Below W.heap.size W w' by have := first_ok g _ W sg (HG.out W (HBB.out W hb)); rwa [← HN0.out] at this)
  have hn0 : n0L g ≤ 500 := by unfold n0L; omega
  have HKP := Lib.hid (kept_any (n0L g) (by omega))
  have HND : Hid (n0L g + g.ands.length ≤ 5000) := Lib.hid (by omega)
  clear X1 Y1 B1
  go_upto_region 5 with (first | (go_at_call 20; refine (HF1.out _ (Below.refl _ _)).mono ?_; rintro ee W5 ⟨rfl, hb5⟩) | (go_at_call 97; refine (newPairs_any (n0L g) _).mono ?_; rintro ee W6 ⟨rfl, P6, hs6, hb6⟩))
  have hs5 := hb5.size
  have b46 := hb5.trans (hb6.mono hs5)
  clear x0 x1 x2 x3 x4 hb5 hb6
  generalize W5.heap.size = m at P6 hs6 hs5 ⊢
  obtain ⟨x0, x1, x2, x3, x4⟩ := HX.out _ b46
  go_upto_region 6 with (first | (go_at_call 20; refine (HF1.out _ b46).mono ?_; rintro ee W7 ⟨rfl, hb7⟩) | (go_at_call 93; refine (HKP.out _).mono ?_; rintro ee W8 ⟨u7, rfl, O8, hb8⟩; clear HKP))
  have hs7 := hb7.size
  have hs8 := hb8.size
  have O6 : OwnK (m + 2) 22 1 encI W8 u7 (hAll g 0).1 := by
    have e : (hAll g 0).1 = keptL (n0L g) := by rw [← base_kept]; unfold hAll; simp
    rw [e]; exact O8.mono (by omega)
  have P8 : PB (m + 1) m (n0L g) (m + 2) (hAll g 0).2 (.slice none 0 0) W8 := by
    have e : (hAll g 0).2 = [] := by unfold hAll; simp
    rw [e]; exact (P6.below hb7).below hb8
  have b48 := (b46.trans (hb7.mono b46.size)).trans (hb8.mono (Nat.le_trans b46.size hs7))
  have hm8 : m + 2 ≤ W8.heap.size := by omega
  have HN := Lib.hid hs5
  clear P6 b46 hb7 hb8 O8 x0 x1 x2 x3 x4 hs6 hs5 hs7 hs8
  obtain ⟨x0, x1, x2, x3, x4⟩ := HX.out _ b48
  go_upto_block 0 with fail
  clear x0 x1 x2 x3 x4
  obtain ⟨i0, ihi, ihz, ihs, ihb⟩ := infoCI_parts
  go_wp2_with fail
  go_loopw [7, 26] (fun u7 i wr => ∃ j : Nat, j ≤ g.ands.length ∧ i = .int .i64 (j : Int) ∧ Hid (OwnK (m + 2) 22 1 encI wr u7 (hAll g j).1) ∧ Hid (∃ v', PB (m + 1) m (n0L g) (m + 2) (hAll g j).2 v' wr) ∧ Hid (Below W1.heap.size W1 wr) ∧ Hid (m + 2 ≤ wr.heap.size)) (fun _ i _ => g.ands.length - (intOf i).toNat)
  case atStart => exact ⟨0, Nat.zero_le _, rfl, Lib.hid O6, Lib.hid ⟨_, P8⟩, Lib.hid b48, Lib.hid hm8⟩
  case round =>
    clear O6 P8 b48 hm8
    obtain ⟨j, hj, rfl, hO7, hP8, hB, hM⟩ := hrel
    rename World => WR
    have hj0 : (0 : Int) ≤ (j : Int) := by omega
    obtain ⟨a7, c7, hv7⟩ := hO7.out.slice
    subst hv7
    obtain ⟨v8, P8⟩ := hP8.out
    obtain ⟨l7, l8⟩ := hAll_len g j hj
    by_cases hlt : j < g.ands.length
    · have hji : (j : Int) < (g.ands.length : Int) := by omega
      obtain ⟨bb, oo, hdd, hcell⟩ := (HA.out _ (HBB.out _ hB.out)).ands.pick (by omega)
      subst hdd
      have d0' := hcell j hlt 0 _ rfl
      have d1' := hcell j hlt 1 _ rfl
      simp only [Nat.add_zero] at d0'
      clear hcell
      have hlit := vg.lits j hlt
      have hnd := nd_lits vg hlt
      have hb := hAll_b vg j hj
      have t1b := tol_b (M := ((n0L g + j : Nat) : Int)) hlit.1.1 hb (by rw [l7]; exact hnd.1) (by omega)
      have t2b := tol_b (M := ((n0L g + j : Nat) : Int)) hlit.2.1 hb (by rw [l7]; exact hnd.2) (by omega)
      have e1 := fl_tol vg hj hlit.1.1 hnd.1
      have e2 := fl_tol vg hj hlit.2.1 hnd.2
      obtain ⟨q1, q2, hpp, hq, hc⟩ := pair_of (T := (hAll g j).1) (p := g.ands[j]!)
      have HS := Lib.hid (show hAll g (j + 1) = ((hAll g j).1 ++ [(anS (n0L g) (hAll g j).2 q1 q2).1], (anS (n0L g) (hAll g j).2 q1 q2).2) by rw [hAll_succ g hlt, step_an _ _ _ hpp])
      have hq1 : 0 ≤ q1 := by rcases hc with ⟨h1, h2⟩ | ⟨h1, h2⟩ <;> omega
      have hq2 : q2 ≤ 4000000000 := by rcases hc with ⟨h1, h2⟩ | ⟨h1, h2⟩ <;> omega
      have HAN := Lib.hid (fun (v' : Value) W (hB : m + 2 ≤ W.heap.size) (hP : PB (m + 1) m (n0L g) (m + 2) (hAll g j).2 v' W) => and_any (m + 1) m (n0L g) (m + 2) (hAll g j).2 v' (toL (hAll g j).1 g.ands[j]!.1) (toL (hAll g j).1 g.ands[j]!.2) q1 q2 ⟨hq, hc⟩ hq1 hq2 (by omega) (by omega) (by omega) (by omega) W hB hP)
      have HMV := Lib.hid (fun (u : Value) W (hr : RowOf 1 encI (hAll g j).1 u W) => show Calls Try.prog 94 #[.agg #[.int .i64 g.ands[j]!.1, .int .i64 g.ands[j]!.2], u] W fun e w' => e = .returned (.agg #[.int .i64 (toL (hAll g j).1 g.ands[j]!.1), .int .i64 (toL (hAll g j).1 g.ands[j]!.2)]) ∧ Below W.heap.size W w' by
        have := moved_any (hAll g j).1 u g.ands[j]! ⟨hlit.1.1, by rw [l7]; exact hnd.1⟩ ⟨hlit.2.1, by rw [l7]; exact hnd.2⟩ W hr
        rwa [show flN (hAll g j).1 g.ands[j]! = (toL (hAll g j).1 g.ands[j]!.1, toL (hAll g j).1 g.ands[j]!.2) by unfold flN; rw [e1, e2]] at this)
      have hL7 : (hAll g j).1.length ≤ 8000 := by rw [l7]; have := HND.out; omega
      clear hlit hnd hb t1b t2b e1 e2 hpp hq hc hq1 hq2 l7 l8
      generalize toL (hAll g j).1 g.ands[j]!.1 = t1 at HAN HMV
      generalize toL (hAll g j).1 g.ands[j]!.2 = t2 at HAN HMV
      generalize g.ands[j]!.1 = p1 at d0' HMV
      generalize g.ands[j]!.2 = p2 at d1' HMV
      generalize anS (n0L g) (hAll g j).2 q1 q2 = Z at HAN HS
      obtain ⟨y, L9⟩ := Z
      simp only at HAN HS
      have O7 := hO7.out
      have B2 := hB.out
      have hm := hM.out
      clear hO7 hP8 hB hM
      generalize (hAll g j).1 = L7 at O7 HMV HS hL7
      generalize (hAll g j).2 = L8 at P8 HAN
      go_upto_region 9 with fail
      have bA := (Below.refl WR.heap.size WR).alloc (Nat.le_refl _) (.cells #[.int .i64 p1, .int .i64 p2] 110)
      have y0 : (WR.alloc (.cells #[.int .i64 p1, .int .i64 p2] 110)).cell? ⟨WR.heap.size, 0, none⟩ = some (.int .i64 p1) := by go_simp
      have y1 : (WR.alloc (.cells #[.int .i64 p1, .int .i64 p2] 110)).cell? ⟨WR.heap.size, 1, none⟩ = some (.int .i64 p2) := by go_simp
      have hsA := bA.size
      replace O7 := O7.below bA
      replace P8 := P8.below bA
      replace B2 := B2.trans (bA.mono B2.size)
      replace hm := Nat.le_trans hm hsA
      clear bA d0' d1' hsA
      generalize WR.alloc (.cells #[.int .i64 p1, .int .i64 p2] 110) = WS at O7 P8 B2 hm y0 y1 ⊢
      generalize WR.heap.size = q9 at y0 y1 ⊢
      have RB := O7.row lenI
      go_upto_region 10 with (first | (go_at_call 94; refine (HMV.out _ _ RB).mono ?_; rintro ee wd ⟨rfl, hbd⟩))
      have bD := (Below.refl wd.heap.size wd).alloc (Nat.le_refl _) (.cells #[.int .i64 t1, .int .i64 t2] 110)
      have z0 : (wd.alloc (.cells #[.int .i64 t1, .int .i64 t2] 110)).cell? ⟨wd.heap.size, 0, none⟩ = some (.int .i64 t1) := by go_simp
      have z1 : (wd.alloc (.cells #[.int .i64 t1, .int .i64 t2] 110)).cell? ⟨wd.heap.size, 1, none⟩ = some (.int .i64 t2) := by go_simp
      have hsd := hbd.size
      have hsD := bD.size
      replace O7 := (O7.below hbd).below bD
      replace P8 := (P8.below hbd).below bD
      replace B2 := (B2.trans (hbd.mono B2.size)).trans (bD.mono (Nat.le_trans B2.size hsd))
      replace hm := Nat.le_trans (Nat.le_trans hm hsd) hsD
      clear bD hbd y0 y1 hsd hsD RB HMV
      generalize wd.alloc (.cells #[.int .i64 t1, .int .i64 t2] 110) = WT at O7 P8 B2 hm z0 z1 ⊢
      generalize wd.heap.size = q10 at z0 z1 ⊢
      go_wp2_with (first | (go_at_call 98; refine (HAN.out _ _ hm P8).mono ?_; rintro ee we ⟨rfl, ⟨v9, P9⟩, hbe, hke⟩; have hse := hbe.size; have bL := (Below.refl we.heap.size we).alloc (Nat.le_refl _) (.cells #[.int .i64 y] 22); have O4 := (hke _ _ _ (Nat.le_refl _) O7).below bL; have P4 := P9.below bL; have B4 := (B2.trans (hbe.mono (by have := HN.out; omega))).trans (bL.mono (Nat.le_trans B2.size hse)); have hme := Nat.le_trans hm hse; have hmL := Nat.le_trans hme bL.size; have hy := hyo we (.int .i64 y) 22; clear HAN) | (at_builtin; refine wpList_append_one (enc := encI) (k := 1) (fun _ => rfl) (by decide) (fun x u hu => by simp at hu; rcases hu with rfl; rfl) rfl _ _ 26 rfl (m + 2) 22 i0 (.int .i64 0) 8 Try.underlying26 ihi ihz ihs ihb (by decide) _ L7 rfl O4 we.heap.size 1 (y) rfl hy (show L7.length + 1 ≤ maxLen by unfold maxLen; omega) (show (L7.length + 1) * 8 ≤ 140737488355328 by omega) hmL ?_))
      intro v5 w5 O5 hb5 hg5
      have hs5 := hb5.size
      have HO5 := Lib.hid O5
      have HP5 := Lib.hid (⟨v9, Arr.mono P4.box hb5 (by omega), World.ownsRow.kept P4.row hg5 (OwnK.tags P4.row O4 (by decide)), P4.tab.belowB hb5 (by omega)⟩ : ∃ v', PB (m + 1) m (n0L g) (m + 2) L9 v' w5)
      have HB5 := Lib.hid (B4.trans (hb5.mono (by have := HN.out; omega)))
      have HM5 := Lib.hid (Nat.le_trans hmL hs5)
      clear O5 hb5 hg5 O4 P4 P9 B4 hy O7 P8 B2 hbe hke bL z0 z1 hs5 hmL hme hse hm
      go_wp2_with fail
      go_roundw
      case rel => exact ⟨j + 1, by omega, by go_num, (by rw [HS.out]; exact HO5), (by rw [HS.out]; exact HP5), HB5, HM5⟩
      all_goals first | done | (simp [intOf]; done) | (simp [intOf]; omega)
    · have hji : ¬ (j : Int) < (g.ands.length : Int) := by omega
      obtain rfl : j = g.ands.length := by omega
      have O7 := hO7.out
      have B0 := hB.out
      have hm := hM.out
      obtain ⟨a8, n8, c8, rfl⟩ := OwnK.sl P8.row
      have hn8 := P8.row.num
      subst hn8
      have hin : ∀ l ∈ goalsL g, 0 ≤ l ∧ ndL l < (hAll g g.ands.length).1.length := fun l hl => ⟨(goal_lit vg l hl).1, by rw [l7]; exact goals_in vg l hl⟩
      have CR := Lib.hid (fun d os => by
        have hbr := below_regrown WR d os
        have := rewired_any g _ (hAll g g.ands.length).2 a8 (hAll g g.ands.length).2.length c8 (hAll g g.ands.length).1 _ (m + 2) sg (fun l hl => hin l (List.mem_append_left _ hl)) (fun r hr => hin r.nx (List.mem_append_right _ (List.mem_map.2 ⟨r, hr, rfl⟩))) _ (HG.out _ (HBB.out _ (B0.trans (hbr.mono B0.size)))) (P8.row.below hbr) ((O7.below hbr).row lenI)
        rw [re_hash vg] at this
        exact this)
      have HLE : Hid (litsG g = (hAll g g.ands.length).1) := Lib.hid rfl
      have HLL := Lib.hid l7
      clear hO7 hP8 hB hM hin l7 l8
      generalize (hAll g g.ands.length).2 = L8 at P8 CR
      generalize (hAll g g.ands.length).1 = L7 at O7 CR HLE HLL
      obtain ⟨x0, x1, x2, x3, x4⟩ := HX.out _ B0
      have b1 := P8.box.cell (j := 1) (by simp)
      simp only [List.getElem!_cons_zero, List.getElem!_cons_succ, gV] at b1
      have HBR := Lib.hid (fun d os => below_regrown WR d os)
      go_upto_region 12 with fail
      have g0 := cell_regrown x0
      have g1 := cell_regrown x1
      have g2 := cell_regrown x2
      have g3 := cell_regrown x3
      have g4 := cell_regrown x4
      have g5 := cell_regrown b1
      clear x0 x1 x2 x3 x4 b1
      refine wp_region_free 7 7 50 (.slice a7 L7.length c7) (by kernel_rfl) (by kernel_rfl) (by kernel_rfl) (fun oj hj w => by simp at hj; subst hj; go_simp) ?_
      intro Q0 hQ0
      simp only [List.eraseIdx_cons_succ, List.eraseIdx_cons_zero, List.take_succ_cons, List.take_zero, List.drop_succ_cons, List.drop_zero]
      iterate 6 (refine rel_fix0 (fun K hK => ?_); go_simp; refine hK _ ?_; clear hK K)
      refine rel_fact [] (fun u w => GO (hashG g) u w) 49 rfl (by simp [Act.put]) (go_sta _) (by rfl) (by kernel_rfl) (by kernel_rfl) ?_ ?_
      · intro d os
        simp only [relAll]
        go_simp
        exact ret_fact (CR.out d os)
      refine rel_nil ?_
      intro d os
      simp only [relAll]
      rintro v49 GF
      have hbr := HBR.out d os
      have hsq := B0.size
      have B9 := B0.trans (hbr.mono hsq)
      have O9 := O7.below hbr
      clear g0 g1 g2 g3 g4 g5 HBR CR hbr O7 P8 B0
      generalize grow (redrawn WR d) os = W9 at GF B9 O9 ⊢
      obtain ⟨e0, e1, e2, e3, e4, e0', e1', e2', e3', e4', rfl, hCF, hAF⟩ := GF.all
      have Y9 := HY.out _ B9
      have BB9 := HBB.out _ B9
      have f0 := Arr.free Y9 0
      have f1 := Arr.free Y9 1
      have f2 := Arr.free Y9 2
      have f3 := Arr.free Y9 3
      have f4 := Arr.free Y9 4
      have lk9 := Arr.lt Y9
      obtain ⟨z0, z1, z2, z3, z4⟩ := id (BG.gx Y9)
      have hkm : k + 1 < m + 2 := by have := HN.out; omega
      have HYF := Lib.hid (BG.gx (BG.all Y9 (.slice e0 (hashG g).ins.length e0') (.slice e1 (hashG g).outN.length e1') (.slice e2 (hashG g).regs.length e2') (.slice e3 (hashG g).ands.length e3') (.slice e4 (hashG g).outs.length e4')))
      have HBF := Lib.hid (b5_mono BB9 (Nat.le_succ k) (.slice e0 (hashG g).ins.length e0') (.slice e1 (hashG g).outN.length e1') (.slice e2 (hashG g).regs.length e2') (.slice e3 (hashG g).ands.length e3') (.slice e4 (hashG g).outs.length e4'))
      have HGF := Lib.hid (GF.far Y9 (sets_far W9 (k + 1) (.slice e0 (hashG g).ins.length e0') (.slice e1 (hashG g).outN.length e1') (.slice e2 (hashG g).regs.length e2') (.slice e3 (hashG g).ands.length e3') (.slice e4 (hashG g).outs.length e4')))
      have HRF := Lib.hid ((O9.put5 (k + 1) (.slice e0 (hashG g).ins.length e0') (.slice e1 (hashG g).outN.length e1') (.slice e2 (hashG g).regs.length e2') (.slice e3 (hashG g).ands.length e3') (.slice e4 (hashG g).outs.length e4') hkm).row lenI)
      clear GF hCF hAF Y9 BB9 O9
      go_wp2_with fail
      have YF := HYF.out
      have BF := HBF.out
      have GF2 := HGF.out
      have RF := HRF.out
      unfold put5 at YF BF RF
      clear HYF HBF HGF HRF f0 f1 f2 f3 f4 z0 z1 z2 z3 z4
      generalize ((((W9.setCell ⟨k + 1, 0, none⟩ (.slice e0 (hashG g).ins.length e0')).setCell ⟨k + 1, 1, none⟩ (.slice e1 (hashG g).outN.length e1')).setCell ⟨k + 1, 2, none⟩ (.slice e2 (hashG g).regs.length e2')).setCell ⟨k + 1, 3, none⟩ (.slice e3 (hashG g).ands.length e3')).setCell ⟨k + 1, 4, none⟩ (.slice e4 (hashG g).outs.length e4') = WF at YF BF RF GF2 ⊢
      obtain ⟨z0, z1, z2, z3, z4⟩ := YF
      exact bodyPost_ret (v := .tuple #[.agg #[.slice e0 (hashG g).ins.length e0', .slice e1 (hashG g).outN.length e1', .slice e2 (hashG g).regs.length e2', .slice e3 (hashG g).ands.length e3', .slice e4 (hashG g).outs.length e4'], .slice a7 L7.length c7, .int .i64 0]) (by simp [results, Try.results64, go_sem, z0, z1, z2, z3, z4]) rfl ⟨_, _, by rw [HZ.out], by rw [HR.out]; exact GF2, by rw [HR2.out, HLE.out]; exact RF, by rw [HK.out]; exact BF⟩
theorem strash_holds : StrashC := fun g v w sg hG => strash_any g v w sg hG
end Go.Proofs.Ytbphhcjepeamcaa
