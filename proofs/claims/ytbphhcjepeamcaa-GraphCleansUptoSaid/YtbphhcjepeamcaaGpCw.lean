/- The program's Clean: what it answers. Condition: rows of at most 4,000,000,000 elements. -/
import Derived.Test.YtbphhcjepeamcaaGpCm
import Derived.Test.YtbphhcjepeamcaaGpE
namespace Go.Proofs.Ytbphhcjepeamcaa
open Go Go.RowKit Go.Sort
set_option linter.unusedVariables false
theorem hyp (W : World) (x y : Int) : ∀ (q : Nat) (u : Value), (encN (x, y))[q]? = some u → (W.alloc (.cells #[.int .i64 x, .int .i64 y] 110)).cell? ⟨W.heap.size, q, none⟩ = some u := by
  intro q u hq
  match q, hq with
  | 0, hq => cases hq; go_simp
  | 1, hq => cases hq; go_simp
/-- marks -/
def FM (n : Nat) (K : List Bool) : Fa := fun v w => ∃ q, v = .slice (some ⟨q, 0, none⟩) n n ∧ Arr 4 (fun b => Value.bool b) q K w
theorem fm_sta (n : Nat) (K : List Bool) : Sta (FM n K) := fun v w w' ⟨q, h1, h2⟩ hb => ⟨q, h1, h2.below hb⟩
theorem row_sta3 {α : Type} [Inhabited α] (k : Nat) (enc : α → List Value) (l : List α) : Sta (RowOf k enc l) := fun v w w' h hb => h.below hb
set_option maxRecDepth 100000 in
set_option maxHeartbeats 16000000 in
theorem clean_any (g : Gr) (v : Value) (w : World) (sg : Small g) (hG : GO g v w) : Calls Try.prog 62 #[v] w fun e w' => ∃ u vp, e = .returned (.tuple #[u, vp, .int .i64 (faultG g)]) ∧ GO (cleanG g) u w' ∧ RowOf 1 encI (cplG g) vp w' ∧ Below w.heap.size w w' := by
  have hG0 := hG
  obtain ⟨a, b, c, d0, e, a', b', c', d', e', rfl, hC, hA⟩ := hG.all
  clear hG
  go_enter Try.func62, Try.ntmps62
  go_upto_region 1 with fail
  have bel := ((Below.refl w.heap.size w).alloc (Nat.le_refl _) (.cells #[.slice a g.ins.length a', .slice b g.outN.length b', .slice c g.regs.length c', .slice d0 g.ands.length d', .slice e g.outs.length e'] 28)).alloc (by simp) (.cells #[.slice none 0 0, .slice none 0 0, .slice none 0 0, .slice none 0 0, .slice none 0 0] 28)
  have X := (GX.new w (.slice a g.ins.length a') (.slice b g.outN.length b') (.slice c g.regs.length c') (.slice d0 g.ands.length d') (.slice e g.outs.length e') 28).below ((Below.refl _ _).alloc (Nat.le_refl _) (.cells #[.slice none 0 0, .slice none 0 0, .slice none 0 0, .slice none 0 0, .slice none 0 0] 28))
  have Y : BG (w.heap.size + 1) (.slice none 0 0) (.slice none 0 0) (.slice none 0 0) (.slice none 0 0) (.slice none 0 0) ((w.alloc (.cells #[.slice a g.ins.length a', .slice b g.outN.length b', .slice c g.regs.length c', .slice d0 g.ands.length d', .slice e g.outs.length e'] 28)).alloc (.cells #[.slice none 0 0, .slice none 0 0, .slice none 0 0, .slice none 0 0, .slice none 0 0] 28)) := by
    have := Arr.allocV (w.alloc (.cells #[.slice a g.ins.length a', .slice b g.outN.length b', .slice c g.regs.length c', .slice d0 g.ands.length d', .slice e g.outs.length e'] 28)) [.slice none 0 0, .slice none 0 0, .slice none 0 0, .slice none 0 0, .slice none 0 0] 28
    rwa [show (w.alloc (.cells #[.slice a g.ins.length a', .slice b g.outN.length b', .slice c g.regs.length c', .slice d0 g.ands.length d', .slice e g.outs.length e'] 28)).heap.size = w.heap.size + 1 by simp] at this
  generalize (w.alloc (.cells #[.slice a g.ins.length a', .slice b g.outN.length b', .slice c g.regs.length c', .slice d0 g.ands.length d', .slice e g.outs.length e'] 28)).alloc (.cells #[.slice none 0 0, .slice none 0 0, .slice none 0 0, .slice none 0 0, .slice none 0 0] 28) = W0 at bel X Y ⊢
  have H0 := Lib.hid (check_any g _ sg W0 (hG0.below bel))
  have HG := Lib.hid (fun W (hb : Below w.heap.size w W) => hG0.below hb)
  have HA := Lib.hid (fun W (hb : Below w.heap.size w W) => hA.below hb)
  generalize hk : w.heap.size = k at X Y bel HG HA ⊢
  have HK := Lib.hid hk
  clear hk hA hC hG0
  obtain ⟨x0, x1, x2, x3, x4⟩ := id X
  by_cases hz : faultG g = 0
  rotate_left
  · have HR : Hid (cleanG g = nilG) := Lib.hid (if_neg hz)
    have HR2 : Hid (cplG g = []) := Lib.hid (if_neg hz)
    generalize hf : faultG g = f at H0 hz
    have HFQ := Lib.hid hf
    clear hf
    have hz2 : (f == 0) = false := beq_eq_false_iff_ne.2 hz
    go_wp2_with (first | (go_at_call 29; refine H0.out.mono ?_; rintro ee W1 ⟨rfl, hb1⟩; have Y1 := Arr.below Y hb1; have f0 := Arr.free Y1 0; have f1 := Arr.free Y1 1; have f2 := Arr.free Y1 2; have f3 := Arr.free Y1 3; have f4 := Arr.free Y1 4; have lk1 := Arr.lt Y1; obtain ⟨z0, z1, z2, z3, z4⟩ := id (BG.gx Y1)))
    have YF := BG.gx (BG.all Y1 (.slice none 0 0) (.slice none 0 0) (.slice none 0 0) (.slice none 0 0) (.slice none 0 0))
    have BF := b5_mono (bel.trans (hb1.mono (by have := Arr.lt Y; omega))) (Nat.le_succ k) (.slice none 0 0) (.slice none 0 0) (.slice none 0 0) (.slice none 0 0) (.slice none 0 0)
    unfold put5 at YF BF
    clear f0 f1 f2 f3 f4 z0 z1 z2 z3 z4
    generalize ((((W1.setCell ⟨k + 1, 0, none⟩ (.slice none 0 0)).setCell ⟨k + 1, 1, none⟩ (.slice none 0 0)).setCell ⟨k + 1, 2, none⟩ (.slice none 0 0)).setCell ⟨k + 1, 3, none⟩ (.slice none 0 0)).setCell ⟨k + 1, 4, none⟩ (.slice none 0 0) = WF at YF BF ⊢
    obtain ⟨z0, z1, z2, z3, z4⟩ := YF
    exact bodyPost_ret (v := .tuple #[.agg #[.slice none 0 0, .slice none 0 0, .slice none 0 0, .slice none 0 0, .slice none 0 0], .slice none 0 0, .int .i64 f]) (by simp [results, Try.results62, go_sem, z0, z1, z2, z3, z4]) rfl ⟨_, _, by rw [HFQ.out], by rw [HR.out]; exact nil_go _, by rw [HR2.out]; exact RowOf.nil, by rw [HK.out]; exact BF⟩
  have vg := vg_of hz
  have HR : Hid (cleanG g = renG g (kpG g)) := Lib.hid (if_pos hz)
  have HR2 : Hid (cplG g = plG g (kpG g)) := Lib.hid (if_pos hz)
  have HZ := Lib.hid hz
  rw [hz] at H0
  clear hz
  have n1 := vg.ins
  have n2 := vg.regs
  have n3 := vg.ands
  go_upto_region 4 with (first | (go_at_call 29; refine H0.out.mono ?_; rintro ee W1 ⟨rfl, hb1⟩))
  have hlkY := Arr.lt Y
  have B1 := bel.trans (hb1.mono (by omega))
  have X1 := X.below hb1
  have Y1 := Arr.below Y hb1
  clear x0 x1 x2 x3 x4 X Y hb1 bel H0 hlkY
  obtain ⟨x0, x1, x2, x3, x4⟩ := id X1
  have lk1 := Arr.lt Y1
  have HBR := Lib.hid (fun d os => below_regrown W1 d os)
  have HBW := Lib.hid (fun d os => B1.trans ((below_regrown W1 d os).mono (by omega)))
  have C1 := Lib.hid (fun W (hb : Below k w W) => roots_holds g _ W sg (HG.out W hb))
  have hgl : (goalsL g).length ≤ 4000000000 := by unfold goalsL; have := vg.same; have := vg.outN; simp; omega
  have C2 := Lib.hid (fun u W (hb : Below k w W) (hr : RowOf 1 encI (goalsL g) u W) => (cone_any g _ (goalsL g) u vg sg hgl (goal_lit vg) W (HG.out W hb) hr).mono fun ee w' ⟨q, q1, q2, q3, q4⟩ => (⟨_, q1, ⟨q, rfl, q2⟩, q4⟩ : ∃ u, ee = Ending.returned u ∧ FM (n0L g + g.ands.length) (kpG g) u w' ∧ Below W.heap.size W w'))
  generalize goalsL g = L at C1 C2
  clear hgl
  have g0 := cell_regrown x0
  have g1 := cell_regrown x1
  have g2 := cell_regrown x2
  have g3 := cell_regrown x3
  have g4 := cell_regrown x4
  clear x0 x1 x2 x3 x4
  refine wp_region_rel 5 (by kernel_rfl) (by kernel_rfl) ?_
  simp only [List.take_succ_cons, List.take_zero, List.drop_succ_cons, List.drop_zero]
  (refine rel_fix0 (fun K hK => ?_); go_simp; refine hK _ ?_; clear hK K)
  (refine rel_fix0 (fun K hK => ?_); go_simp; refine hK _ ?_; clear hK K)
  refine rel_fact [] (RowOf 1 encI L) 22 rfl (by simp [Act.put]) (row_sta3 _ _ _) (by rfl) (by kernel_rfl) (by kernel_rfl) ?_ ?_
  · intro d os
    simp only [relAll]
    go_simp
    exact ret_fact (C1.out _ (HBW.out _ _))
  refine rel_fact [(22, _)] (FM (n0L g + g.ands.length) (kpG g)) 23 rfl (by simp [Act.put]) (fm_sta _ _) (by rfl) (by kernel_rfl) (by kernel_rfl) ?_ ?_
  · intro d os
    simp only [relAll]
    rintro u1 r1
    go_simp
    exact ret_fact (C2.out _ _ (HBW.out _ _) r1)
  refine rel_fact [(23, _)] (FM (n0L g + g.ands.length) (kpG g)) 6 rfl (by simp [Act.put]) (fm_sta _ _) (by rfl) (by kernel_rfl) (by kernel_rfl) ?_ ?_
  · intro d os
    simp only [relAll]
    rintro u1 r1
    go_simp
    all_goals exact ⟨r1, Below.refl _ _⟩
  refine rel_nil ?_
  intro d os
  simp only [relAll]
  rintro v6 ⟨q6, rfl, M6⟩ v23 - v22 -
  have B4 := HBW.out d os
  have X4 := X1.below (HBR.out d os)
  have Y4 := Arr.below Y1 (HBR.out d os)
  have M4 := M6
  clear g0 g1 g2 g3 g4 HBR HBW C1 C2 M6 X1 Y1 B1 lk1
  generalize grow (redrawn W1 d) os = W4 at B4 X4 Y4 M4 ⊢
  have lk4 := Arr.lt Y4
  have lq4 := Arr.lt M4
  have hN0 : ((n0L g : Nat) : Int) = 1 + (g.ins.length : Int) + (g.regs.length : Int) := by unfold n0L; omega
  have HN0 := Lib.hid hN0
  clear hN0
  have HX := Lib.hid (fun W (hb : Below W4.heap.size W4 W) => X4.below hb)
  have HY := Lib.hid (fun W (hb : Below W4.heap.size W4 W) => Arr.below Y4 hb)
  have HM := Lib.hid (fun W (hb : Below W4.heap.size W4 W) => M4.below hb)
  have HBB := Lib.hid (fun W (hb : Below W4.heap.size W4 W) => B4.trans (hb.mono (by omega)))
  have HF1 := Lib.hid (fun W (hb : Below W4.heap.size W4 W) => show Calls Try.prog 20 _ W fun e w' => e = .returned (.int .i64 (n0L g : Int)) ∧ Below W.heap.size W w' by have := first_ok g _ W sg (HG.out W (HBB.out W hb)); rwa [← HN0.out] at this)
  have hn0 : n0L g ≤ 500 := by unfold n0L; omega
  have HKP := Lib.hid (kept_any (n0L g) (by omega))
  have HND : Hid (n0L g + g.ands.length ≤ 5000) := Lib.hid (by omega)
  obtain ⟨x0, x1, x2, x3, x4⟩ := id X4
  clear X4 Y4 M4 B4
  go_upto_region 6 with (first | (go_at_call 20; refine (HF1.out _ (Below.refl _ _)).mono ?_; rintro ee W5 ⟨rfl, hb5⟩) | (go_at_call 93; refine (HKP.out _).mono ?_; rintro ee W6 ⟨u7, rfl, O7, hb6⟩; clear HKP))
  have O6 := O7.mono hb5.size
  have b46 := hb5.trans (hb6.mono hb5.size)
  clear O7 x0 x1 x2 x3 x4 hb5 hb6
  obtain ⟨x0, x1, x2, x3, x4⟩ := HX.out _ b46
  go_upto_block 0 with fail
  clear x0 x1 x2 x3 x4
  obtain ⟨i0, ihi, ihz, ihs, ihb⟩ := infoCI_parts
  obtain ⟨n0, nhi, nhz, nhs, nhb⟩ := infoCN_parts
  have hKL := kp_len g
  have HKA := Lib.hid (fun j (hj : j < g.ands.length) (h : (kpG g)[n0L g + j]! = true) => kp_and vg hj h)
  have HRE := Lib.hid (re_ren vg)
  generalize hkp : kpG g = K at HM hKL HKA HRE HR HR2
  have HKPP := Lib.hid hkp
  clear hkp
  generalize hpp : plG g K = P at HRE
  have HPP := Lib.hid hpp
  clear hpp
  have OZ : OwnK W4.heap.size 110 2 encN W6 (.slice none 0 0) [] := OwnK.nil _ _ _ _ _
  go_wp2_with fail
  go_loopw [7, 8, 30] (fun u7 u8 i wr => ∃ j : Nat, j ≤ g.ands.length ∧ i = .int .i64 (j : Int) ∧ Hid (OwnK W4.heap.size 22 1 encI wr u7 (bcL g K j)) ∧ Hid (OwnK W4.heap.size 110 2 encN wr u8 (kL g K P j)) ∧ Hid (Below W4.heap.size W4 wr)) (fun _ _ i _ => g.ands.length - (intOf i).toNat)
  case atStart => exact ⟨0, Nat.zero_le _, rfl, Lib.hid O6, Lib.hid OZ, Lib.hid b46⟩
  case round =>
    clear O6 OZ b46
    obtain ⟨j, hj, rfl, hO7, hO8, hB⟩ := hrel
    rename World => WR
    have hj0 : (0 : Int) ≤ (j : Int) := by omega
    obtain ⟨a7, c7, hv7⟩ := hO7.out.slice
    subst hv7
    obtain ⟨a8, c8, hv8⟩ := hO8.out.slice
    subst hv8
    have HL7 := Lib.hid (bc_len g K j)
    have HL8 := kL_len g K P j
    by_cases hlt : j < g.ands.length
    · have hji : (j : Int) < (g.ands.length : Int) := by omega
      obtain ⟨bb, oo, hdd, hcell⟩ := (HA.out _ (HBB.out _ hB.out)).ands.pick (by omega)
      subst hdd
      have d0' := hcell j hlt 0 _ rfl
      have d1' := hcell j hlt 1 _ rfl
      simp only [Nat.add_zero] at d0'
      clear hcell
      have hlit := vg.lits j hlt
      have hlin : ndL g.ands[j]!.1 < n0L g + j ∧ ndL g.ands[j]!.2 < n0L g + j := by
        have hb : baseL g = 2 * (1 + (g.ins.length : Int) + (g.regs.length : Int)) := rfl
        unfold ndL n0L
        omega
      have HKJ := Lib.hid (HKA.out j hlt)
      have HBJ := Lib.hid (show bcL g K (j + 1) = bcL g K j ++ [if K[n0L g + j]! = true then 2 * ((n0L g : Int) + ((kL g K P j).length : Int)) else -1] by rw [← HPP.out]; rfl)
      have HKS := Lib.hid (kL_succ g K P j)
      have HB1 := Lib.hid (bc_len g K (j + 1))
      have HFL := Lib.hid (fun l (h0 : 0 ≤ l) (hl : ndL l < n0L g + j) (hk : K[ndL l]! = true) => show flL (bcL g K (j + 1)) l = atL P l by rw [← HPP.out]; exact fl_at hKL (by have := HND.out; omega) (by omega) h0 (by omega) (.inl hk))
      generalize g.ands[j]! = p at d0' d1' hlit hlin HKJ HKS
      obtain ⟨p1, p2⟩ := p
      simp only at d0' d1' hlit hlin HKJ HKS
      go_upto_region 10 with fail
      have bA := (Below.refl WR.heap.size WR).alloc (Nat.le_refl _) (.cells #[.int .i64 p1, .int .i64 p2] 110)
      have y0 : (WR.alloc (.cells #[.int .i64 p1, .int .i64 p2] 110)).cell? ⟨WR.heap.size, 0, none⟩ = some (.int .i64 p1) := by go_simp
      have y1 : (WR.alloc (.cells #[.int .i64 p1, .int .i64 p2] 110)).cell? ⟨WR.heap.size, 1, none⟩ = some (.int .i64 p2) := by go_simp
      have hq7 := Lib.hid (fun b (h : (Value.slice a7 (bcL g K j).length c7).ownBlock = some b) => (World.ownsRow.lt hO7.out b h).2)
      have O7 := hO7.out.below bA
      have O8 := hO8.out.below bA
      have B2 := hB.out.trans (bA.mono hB.out.size)
      clear bA d0' d1' hO7 hO8 hB
      generalize WR.alloc (.cells #[.int .i64 p1, .int .i64 p2] 110) = WS at O7 O8 B2 y0 y1 ⊢
      generalize WR.heap.size = q10 at hq7 y0 y1 ⊢
      have a1 : WS.cell? ⟨q6, n0L g + j, none⟩ = some (.bool K[n0L g + j]!) := (HM.out _ B2).cell (by rw [hKL]; omega)
      have lw := Nat.lt_of_lt_of_le lq4 B2.size
      have hi1 : (n0L g : Int) + (j : Int) < ((n0L g + g.ands.length : Nat) : Int) := by omega
      have hi0 : (0 : Int) ≤ (n0L g : Int) + (j : Int) := by omega
      have hwr : IntKind.i64.wrap ((n0L g : Int) + (j : Int)) = (n0L g : Int) + (j : Int) := IntWalk.i64_in _ (by omega)
      obtain ⟨x0, x1, x2, x3, x4⟩ := HX.out _ B2
      have lx := (HX.out _ B2).lt
      have ly := World.block_lt_of_cell? WS _ y0
      have C1 := Lib.hid (HF1.out WS B2)
      cases hm : K[n0L g + j]! with
      | false =>
        rw [hm] at a1 HBJ HKS
        rw [if_neg (by decide)] at HBJ HKS
        clear hm
        go_upto_region 11 with (first | (go_at_call 20; refine C1.out.mono ?_; rintro ee W9 ⟨rfl, hb9⟩; have a1 := (hb9.cell (p := ⟨q6, n0L g + j, none⟩) lw).trans a1))
        have O79 := O7.below hb9
        have O89 := O8.below hb9
        have B9 := B2.trans (hb9.mono B2.size)
        have hs9 := B9.size
        clear hb9 x0 x1 x2 x3 x4 O7 O8 B2 a1 y0 y1 C1
        have hLL : (bcL g K j).length ≤ 8000000000 := by rw [HL7.out]; have := HND.out; omega
        generalize bcL g K j = L7 at O79 HBJ hLL HL7
        have O4 := O79.below ((Below.refl _ W9).alloc (Nat.le_refl _) (.cells #[.int .i64 (-1)] 22))
        have O84 := O89.below ((Below.refl _ W9).alloc (Nat.le_refl _) (.cells #[.int .i64 (-1)] 22))
        have hy := hyo W9 (.int .i64 (-1)) 22
        go_wp2_with (at_builtin; refine wpList_append_one (enc := encI) (k := 1) (fun _ => rfl) (by decide) (fun x u hu => by simp at hu; rcases hu with rfl; rfl) rfl _ _ 26 rfl (W4.heap.size) 22 i0 (.int .i64 0) 8 Try.underlying26 ihi ihz ihs ihb (by decide) _ L7 rfl O4 W9.heap.size 1 (-1) rfl hy (show L7.length + 1 ≤ maxLen by unfold maxLen; omega) (show (L7.length + 1) * 8 ≤ 140737488355328 by omega) (by first | omega | (simp; omega)) ?_)
        intro v5 w5 O5 hb5 hg5
        have HO5 := Lib.hid O5
        have HO8 := Lib.hid (World.ownsRow.kept O84 hg5 (OwnK.tags O84 O4 (by decide)))
        have HB5 := Lib.hid (B9.trans (((Below.refl _ W9).alloc hs9 _).trans hb5))
        clear O5 hb5 hg5 O4 O84 O79 O89 hy B9
        go_wp2_with fail
        go_roundw
        case rel => exact ⟨j + 1, by omega, by go_num, (by rw [HBJ.out]; exact HO5), (by rw [HKS.out]; exact HO8), HB5⟩
        all_goals first | done | (simp [intOf]; done) | (simp [intOf]; omega)
      | true =>
        have hkk := HKJ.out hm
        have e1 := HFL.out p1 hlit.1.1 hlin.1 hkk.1
        have e2 := HFL.out p2 hlit.2.1 hlin.2 hkk.2
        have HMV := Lib.hid (fun (u : Value) W (hr : RowOf 1 encI (bcL g K (j + 1)) u W) => show Calls Try.prog 94 #[.agg #[.int .i64 p1, .int .i64 p2], u] W fun e w' => e = .returned (.agg #[.int .i64 (atL P p1), .int .i64 (atL P p2)]) ∧ Below W.heap.size W w' by
          have := moved_any (bcL g K (j + 1)) u (p1, p2) ⟨hlit.1.1, by rw [HB1.out]; show ndL p1 < _; omega⟩ ⟨hlit.2.1, by rw [HB1.out]; show ndL p2 < _; omega⟩ W hr
          rwa [show flN (bcL g K (j + 1)) (p1, p2) = (atL P p1, atL P p2) by unfold flN; rw [e1, e2]] at this)
        rw [hm] at a1 HBJ HKS
        rw [if_pos rfl] at HBJ HKS
        clear hm hkk e1 e2 hlit hlin
        go_upto_region 12 with (first | (go_at_call 20; refine C1.out.mono ?_; rintro ee W9 ⟨rfl, hb9⟩; have a1 := (hb9.cell (p := ⟨q6, n0L g + j, none⟩) lw).trans a1))
        have O79 := O7.below hb9
        have O89 := O8.below hb9
        have B9 := B2.trans (hb9.mono B2.size)
        have z0 := (hb9.cell (p := ⟨q10, 0, none⟩) ly).trans y0
        have z1 := (hb9.cell (p := ⟨q10, 1, none⟩) ly).trans y1
        clear hb9 x0 x1 x2 x3 x4 O7 O8 B2 a1 y0 y1 C1 lx ly
        obtain ⟨x0, x1, x2, x3, x4⟩ := HX.out _ B9
        have lx := (HX.out _ B9).lt
        have hs9 := B9.size
        have C1 := Lib.hid (HF1.out W9 B9)
        have hLL : (bcL g K j).length ≤ 8000000000 := by rw [HL7.out]; have := HND.out; omega
        have hL8 : (kL g K P j).length ≤ 4000 := by omega
        have HT7 := HBJ
        generalize bcL g K j = L7 at O79 hLL HL7 HT7 hq7
        generalize hL7 : bcL g K (j + 1) = L7' at HT7 HMV
        have HL7' := Lib.hid hL7
        clear hL7
        generalize kL g K P j = L8 at O89 hL8 HT7 HKS HL8
        generalize atL P p1 = t1 at HMV HKS
        generalize atL P p2 = t2 at HMV HKS
        have C2 := Lib.hid (fun W => literal_ok ((n0L g : Int) + (L8.length : Int)) W (by omega))
        have hwr2 : IntKind.i64.wrap ((n0L g : Int) + (L8.length : Int)) = (n0L g : Int) + (L8.length : Int) := IntWalk.i64_in _ (by omega)
        generalize hyy : 2 * ((n0L g : Int) + (L8.length : Int)) = yl at C2 HT7
        clear hyy
        have ly := World.block_lt_of_cell? W9 _ z0
        go_wp2_with (first | (go_at_call 20; refine C1.out.mono ?_; rintro ee wa ⟨rfl, hba⟩; clear C1) | (go_at_call 71; refine (C2.out _).mono ?_; rintro ee wb ⟨rfl, hbb⟩; have b9b := hba.trans (hbb.mono hba.size); have hsb := Nat.le_trans hs9 b9b.size; have bL := (Below.refl wb.heap.size wb).alloc (Nat.le_refl _) (.cells #[.int .i64 yl] 22); have O4 := (O79.below b9b).below bL; have O84 := (O89.below b9b).below bL; have B4 := (B9.trans (b9b.mono hs9)).trans (bL.mono hsb); have z0b := ((b9b.trans (bL.mono b9b.size)).cell (p := ⟨q10, 0, none⟩) ly).trans z0; have z1b := ((b9b.trans (bL.mono b9b.size)).cell (p := ⟨q10, 1, none⟩) ly).trans z1; have hy := hyo wb (.int .i64 yl) 22; clear C2) | (at_builtin; refine wpList_append_one (enc := encI) (k := 1) (fun _ => rfl) (by decide) (fun x u hu => by simp at hu; rcases hu with rfl; rfl) rfl _ _ 26 rfl (W4.heap.size) 22 i0 (.int .i64 0) 8 Try.underlying26 ihi ihz ihs ihb (by decide) _ L7 rfl O4 wb.heap.size 1 (yl) rfl hy (show L7.length + 1 ≤ maxLen by unfold maxLen; omega) (show (L7.length + 1) * 8 ≤ 140737488355328 by omega) (by first | omega | (simp; omega)) ?_))
        intro v5 w5 O5 hb5 hg5
        have O5' := O5
        rw [← HT7.out] at O5'
        have O85 : OwnK W4.heap.size 110 2 encN w5 (.slice a8 L8.length c8) L8 := World.ownsRow.kept O84 hg5 (OwnK.tags O84 O4 (by decide))
        have B5 := B4.trans hb5
        have hne : some q10 ≠ (Value.slice a7 L7.length c7).ownBlock := fun e => by have := hq7.out q10 e.symm; omega
        have z0c := hg5.cell z0b hne
        have z1c := hg5.cell z1b hne
        have hs5 := B5.size
        have RB5 := O5'.row lenI
        clear O5 hb5 hg5 O4 O84 O79 O89 hy B9 B4 z0 z1 z0b z1b x0 x1 x2 x3 x4 hba hbb b9b bL hsb lx ly hne
        have ly := World.block_lt_of_cell? w5 _ z0c
        go_wp2_with (first | (go_at_call 94; refine (HMV.out _ _ RB5).mono ?_; rintro ee wd ⟨rfl, hbd⟩; have hsd := Nat.le_trans hs5 hbd.size; have bL := (Below.refl wd.heap.size wd).alloc (Nat.le_refl _) (.cells #[.int .i64 t1, .int .i64 t2] 110); have O8d := (O85.below hbd).below bL; have O7d := (O5'.below hbd).below bL; have B6 := (B5.trans (hbd.mono hs5)).trans (bL.mono hsd); have hy := hyp wd t1 t2) | (at_builtin; refine wpList_append_one (enc := encN) (k := 2) (fun _ => rfl) (by decide) (fun x u hu => by simp at hu; rcases hu with rfl | rfl <;> rfl) rfl _ _ 25 rfl (W4.heap.size) 110 n0 (.agg #[.int .i64 0, .int .i64 0]) 16 Try.underlying25 nhi nhz nhs nhb (by decide) _ L8 rfl O8d wd.heap.size 1 (t1, t2) rfl hy (show L8.length + 1 ≤ maxLen by unfold maxLen; omega) (show (L8.length + 1) * 16 ≤ 140737488355328 by omega) (by first | omega | (simp; omega)) ?_))
        intro v9 w9 O9 hb9 hg9
        have HO9 := Lib.hid O9
        have HO7 := Lib.hid (World.ownsRow.kept O7d hg9 (OwnK.tags O7d O8d (by decide)))
        have HB9 := Lib.hid (B6.trans hb9)
        clear O9 hb9 hg9 O8d O7d B6 hy O5' O85 RB5 B5 z0c z1c hbd bL hsd ly
        go_wp2_with fail
        go_roundw
        case rel => exact ⟨j + 1, by omega, by go_num, (by rw [HL7'.out]; exact HO7), (by rw [HKS.out]; exact HO9), HB9⟩
        all_goals first | done | (simp [intOf]; done) | (simp [intOf]; omega)
    · have hji : ¬ (j : Int) < (g.ands.length : Int) := by omega
      obtain rfl : j = g.ands.length := by omega
      have O7 := hO7.out
      have O8 := hO8.out
      have B7 := hB.out
      clear hO7 hO8 hB
      have HBN := Lib.hid (bc_nodes hKL)
      have HLL := HL7
      have hL8 : (kL g K P g.ands.length).length ≤ 4000 := by omega
      have hmk := fun W => mkJ W (bcL g K g.ands.length).length (bcL g K g.ands.length).length (Nat.le_refl _) (by rw [HL7.out]; have := HND.out; omega)
      generalize hL7 : bcL g K g.ands.length = L7 at O7 HBN HL7 HRE hmk
      have HL7E := Lib.hid hL7
      clear hL7 HLL
      have hLb : L7.length ≤ 10000 := by rw [HL7.out]; have := HND.out; omega
      generalize kL g K P g.ands.length = L8 at O8 hL8 HRE HL8
      go_upto_region 16 with fail
      have A0 : Arr 3 (fun n : Int => Value.int .i64 n) WR.heap.size (List.replicate L7.length 0) (WR.alloc (.cells (madeCells #[.int .i64 0] L7.length) 3)) := Arr.made WR _ 0 _
      have bA := (Below.refl WR.heap.size WR).alloc (Nat.le_refl _) (.cells (madeCells #[.int .i64 0] L7.length) 3)
      rw [← fill_zero nodeL 0 L7] at A0
      have HO7 := Lib.hid (fun W (hb : Below WR.heap.size WR W) => O7.below hb)
      have HO8 := Lib.hid (fun W (hb : Below WR.heap.size WR W) => O8.below hb)
      have HB7 := Lib.hid (fun W (hb : Below WR.heap.size WR W) => B7.trans (hb.mono B7.size))
      have hsr := B7.size
      clear hmk O7 O8 B7
      generalize WR.alloc (.cells (madeCells #[.int .i64 0] L7.length) 3) = W7 at A0 bA ⊢
      go_upto_block 2 with fail
      go_wp2_with fail
      go_loopw [67] (fun i wr => ∃ j : Nat, j ≤ L7.length ∧ i = .int .i64 (j : Int) ∧ Hid (Arr 3 (fun n : Int => Value.int .i64 n) WR.heap.size (fillL nodeL 0 L7 j) wr) ∧ Hid (Below WR.heap.size WR wr)) (fun i _ => L7.length - (intOf i).toNat)
      case atStart => exact ⟨0, Nat.zero_le _, rfl, Lib.hid A0, Lib.hid bA⟩
      case round =>
        clear A0 bA
        obtain ⟨j2, hj2, rfl, hA2, hB2⟩ := hrel
        rename World => WQ
        have hj20 : (0 : Int) ≤ (j2 : Int) := by omega
        by_cases hlt2 : j2 < L7.length
        · have hji2 : (j2 : Int) < (L7.length : Int) := by omega
          obtain ⟨b7, hb7, hle7, hlt7⟩ := (HO7.out _ hB2.out).at (by omega)
          subst hb7
          have d7 : WQ.cell? ⟨b7, j2, none⟩ = some (.int .i64 L7[j2]!) := by
            have := OwnK.cellK lenI (HO7.out _ hB2.out) (j := j2) (c := 0) (x := .int .i64 L7[j2]!) hlt2 rfl
            simpa using this
          have A1 := hA2.out
          have B1 := hB2.out
          have HFL := Lib.hid (fill_len nodeL 0 L7 j2 hj2)
          have HS := Lib.hid (fill_set nodeL 0 L7 j2 hlt2)
          have C1 := Lib.hid (fun W => node_any L7[j2]! W)
          clear hA2 hB2
          generalize L7[j2]! = x at d7 HS C1
          generalize nodeL x = y at HS C1
          have hs1 := B1.size
          go_wp2_with (first | (go_at_call 17; refine (C1.out _).mono ?_; rintro ee wa ⟨rfl, hba⟩; have A3 := A1.below hba; have fr := A3.free j2; have a3 := A3.cell (j := j2) (by rw [HFL.out]; exact hlt2); have hl3 := A3.lt))
          have HA4 := Lib.hid (A3.set j2 y)
          rw [HS.out] at HA4
          have HB4 := Lib.hid ((B1.trans (hba.mono hs1)).setCell (p := ⟨WR.heap.size, j2, none⟩) (Nat.le_refl _) (.int .i64 y))
          clear A1 A3 a3 fr hl3 hba B1
          first | go_roundw | (go_wp2_with fail; go_roundw)
          case rel => exact ⟨j2 + 1, by omega, by go_num, HA4, HB4⟩
          all_goals first | done | (simp [intOf]; done) | (simp [intOf]; omega)
        · have hji2 : ¬ (j2 : Int) < (L7.length : Int) := by omega
          have hj2e : j2 = L7.length := by omega
          have A1 := hA2.out
          rw [hj2e, fill_all, HBN.out] at A1
          have B1 := hB2.out
          clear hA2 hB2 hj2e
          have B0 := HB7.out _ B1
          obtain ⟨x0, x1, x2, x3, x4⟩ := HX.out _ B0
          have hin : ∀ l ∈ goalsL g, 0 ≤ l ∧ ndL l < L7.length := fun l hl => ⟨(goal_lit vg l hl).1, by rw [HL7.out]; exact goals_in vg l hl⟩
          have CR := Lib.hid (rewired_any g _ L8 a8 L8.length c8 L7 _ W4.heap.size sg (fun l hl => hin l (List.mem_append_left _ hl)) (fun r hr => hin r.nx (List.mem_append_right _ (List.mem_map.2 ⟨r, hr, rfl⟩))) WQ (HG.out _ (HBB.out _ B0)) (HO8.out _ B1) ((HO7.out _ B1).row lenI))
          rw [HRE.out] at CR
          have hpl : (plG g K).length = L7.length := by rw [plG, plL_len, hKL, HL7.out]
          have Y0 := HY.out _ B0
          have BB0 := HBB.out _ B0
          have hsq := B0.size
          clear hin
          go_wp2_with (first | (go_at_call 95; refine CR.out.mono ?_; rintro ee wf ⟨uu, rfl, GF, hbf⟩; obtain ⟨e0, e1, e2, e3, e4, e0', e1', e2', e3', e4', rfl, hCF, hAF⟩ := GF.all; have Y1 := Arr.below Y0 hbf; have f0 := Arr.free Y1 0; have f1 := Arr.free Y1 1; have f2 := Arr.free Y1 2; have f3 := Arr.free Y1 3; have f4 := Arr.free Y1 4; have lk1 := Arr.lt Y1; obtain ⟨z0, z1, z2, z3, z4⟩ := id (BG.gx Y1)))
          have AF := A1.below hbf
          have hbw : k + 1 < WR.heap.size := by omega
          have AF2 : Arr 3 (fun n : Int => Value.int .i64 n) WR.heap.size (plG g K) (put5 wf (k + 1) (.slice e0 (renG g K).ins.length e0') (.slice e1 (renG g K).outN.length e1') (.slice e2 (renG g K).regs.length e2') (.slice e3 (renG g K).ands.length e3') (.slice e4 (renG g K).outs.length e4')) := ((((AF.other (by show _ ≠ k + 1; omega)).other (by show _ ≠ k + 1; omega)).other (by show _ ≠ k + 1; omega)).other (by show _ ≠ k + 1; omega)).other (by show _ ≠ k + 1; omega)
          have YF := BG.gx (BG.all Y1 (.slice e0 (renG g K).ins.length e0') (.slice e1 (renG g K).outN.length e1') (.slice e2 (renG g K).regs.length e2') (.slice e3 (renG g K).ands.length e3') (.slice e4 (renG g K).outs.length e4'))
          have BF := b5_mono (BB0.trans (hbf.mono (by omega))) (Nat.le_succ k) (.slice e0 (renG g K).ins.length e0') (.slice e1 (renG g K).outN.length e1') (.slice e2 (renG g K).regs.length e2') (.slice e3 (renG g K).ands.length e3') (.slice e4 (renG g K).outs.length e4')
          have GF2 := GF.far Y1 (sets_far wf (k + 1) (.slice e0 (renG g K).ins.length e0') (.slice e1 (renG g K).outN.length e1') (.slice e2 (renG g K).regs.length e2') (.slice e3 (renG g K).ands.length e3') (.slice e4 (renG g K).outs.length e4'))
          unfold put5 at YF BF AF2
          have RF := (AF2.rowc _ rfl).row
          clear f0 f1 f2 f3 f4 z0 z1 z2 z3 z4 AF2 AF GF hAF hCF
          generalize ((((wf.setCell ⟨k + 1, 0, none⟩ (.slice e0 (renG g K).ins.length e0')).setCell ⟨k + 1, 1, none⟩ (.slice e1 (renG g K).outN.length e1')).setCell ⟨k + 1, 2, none⟩ (.slice e2 (renG g K).regs.length e2')).setCell ⟨k + 1, 3, none⟩ (.slice e3 (renG g K).ands.length e3')).setCell ⟨k + 1, 4, none⟩ (.slice e4 (renG g K).outs.length e4') = WF at YF BF RF GF2 ⊢
          obtain ⟨z0, z1, z2, z3, z4⟩ := YF
          exact bodyPost_ret (v := .tuple #[.agg #[.slice e0 (renG g K).ins.length e0', .slice e1 (renG g K).outN.length e1', .slice e2 (renG g K).regs.length e2', .slice e3 (renG g K).ands.length e3', .slice e4 (renG g K).outs.length e4'], .slice (some ⟨WR.heap.size, 0, none⟩) L7.length L7.length, .int .i64 0]) (by simp [results, Try.results62, go_sem, z0, z1, z2, z3, z4]) rfl ⟨_, _, by rw [HZ.out], by rw [HR.out]; exact GF2, by rw [HR2.out]; rw [hpl] at RF; exact RF, by rw [HK.out]; exact BF⟩
theorem clean_holds : CleanC := fun g v w sg hG => clean_any g v w sg hG
end Go.Proofs.Ytbphhcjepeamcaa
