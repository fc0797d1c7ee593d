/- The program's First, Nets, roots, checkNets and formGate: what they answer. Condition: the sizes of a netlist that came in. -/
import Derived.Test.YtimojbjamfckmaaNlB
namespace Go.Proofs.Ytimojbjamfckmaa
open Go Go.RowKit Go.Sort
set_option linter.unusedVariables false
/-- the nets that a netlist is for -/
def rootsP (n : Nl) : List Int := (n.flops.flatMap fun f => [f.d, f.en]) ++ n.outs
def checkE (m : Int) (l : List Int) : Int := if anyN m l = true then 2 else 0
theorem checkE_cons (m x : Int) (l : List Int) : checkE m (x :: l) = if badN m x = true then 2 else checkE m l := by
  unfold checkE anyN
  cases h : badN m x <;> simp [h]
theorem ends_roots (n : Nl) : endsF n = checkE (netsN n : Nat) (rootsP n) := by
  have key : ∀ l : List Fl, (l.any fun f => badN (netsN n : Nat) f.d || badN (netsN n : Nat) f.en) = (l.flatMap fun f => [f.d, f.en]).any (badN (netsN n : Nat)) := by
    intro l
    induction l with
    | nil => rfl
    | cons f l ih => simp only [List.any_cons, List.flatMap_cons, List.any_append, ih, List.any_nil, Bool.or_false]
  unfold endsF checkE rootsP anyN
  rw [key, List.any_append]
  by_cases h : ((n.flops.flatMap fun f => [f.d, f.en]).any (badN (netsN n : Nat)) || n.outs.any (badN (netsN n : Nat))) = true
  · rw [if_pos h, if_pos (by simpa using h)]
  · rw [if_neg h, if_neg (by simpa using h)]
theorem flat2_len (l : List Fl) : (l.flatMap fun f => [f.d, f.en]).length = 2 * l.length := by
  induction l with
  | nil => rfl
  | cons f l ih => rw [List.flatMap_cons, List.length_append, ih]; simp; omega
theorem row2_at (a b : Int) (W : World) (t : TypeId) : RowAt 1 (fun x : Int => [Value.int .i64 x]) [a, b] (some ⟨W.heap.size, 0, none⟩) (W.alloc (.cells #[.int .i64 a, .int .i64 b] t)) := by
  refine .inr ⟨_, 0, rfl, fun j hj c x hx => ?_⟩
  match j, hj, c, hx with
  | 0, _, 0, hx => cases hx; go_simp
  | 1, _, 0, hx => cases hx; go_simp
theorem lenJ (x : Int) : (encI x).length = 1 := rfl
set_option maxRecDepth 100000 in
set_option maxHeartbeats 4000000 in
theorem nfirst_any (n : Nl) (v : Value) (sg : SmN n) (w : World) (hG : NO n v w) : Calls Try.prog 24 #[v] w fun e w' => e = .returned (.int .i64 ((fstN n : Nat) : Int)) ∧ Below w.heap.size w w' := by
  have hG0 := hG
  obtain ⟨a, b, c, d0, e, a', b', c', d', e', rfl, hC, hA⟩ := hG.all
  clear hG
  have s1 := sg.ins
  have s3 := sg.flops
  go_enter Try.func24, Try.ntmps24
  go_upto_region 1 with fail
  have bel := (Below.refl w.heap.size w).alloc (Nat.le_refl _) (.cells #[.slice a n.ins.length a', .slice b n.outN.length b', .slice c n.flops.length c', .slice d0 n.gates.length d', .slice e n.outs.length e'] 27)
  have X := GX.new w (.slice a n.ins.length a') (.slice b n.outN.length b') (.slice c n.flops.length c') (.slice d0 n.gates.length d') (.slice e n.outs.length e') 27
  generalize w.alloc (.cells #[.slice a n.ins.length a', .slice b n.outN.length b', .slice c n.flops.length c', .slice d0 n.gates.length d', .slice e n.outs.length e'] 27) = W0 at bel X ⊢
  generalize hk : w.heap.size = k at X ⊢
  have HK := Lib.hid hk
  clear hk
  obtain ⟨x0, x1, x2, x3, x4⟩ := id X
  have HE := Lib.hid (show 2 + (n.ins.length : Int) + (n.flops.length : Int) = (fstN n : Nat) by unfold fstN; push_cast; rfl)
  clear hG0 hA hC
  go_wp2_with fail
  go_ret
  exact ⟨ret_num HE.out, bel⟩
set_option maxRecDepth 100000 in
set_option maxHeartbeats 4000000 in
theorem nnets_any (n : Nl) (v : Value) (sg : SmN n) (w : World) (hG : NO n v w) : Calls Try.prog 23 #[v] w fun e w' => e = .returned (.int .i64 ((netsN n : Nat) : Int)) ∧ Below w.heap.size w w' := by
  have hG0 := hG
  obtain ⟨a, b, c, d0, e, a', b', c', d', e', rfl, hC, hA⟩ := hG.all
  clear hG
  have s1 := sg.ins
  have s3 := sg.flops
  have s4 := sg.gates
  go_enter Try.func23, Try.ntmps23
  go_upto_region 1 with fail
  have bel := (Below.refl w.heap.size w).alloc (Nat.le_refl _) (.cells #[.slice a n.ins.length a', .slice b n.outN.length b', .slice c n.flops.length c', .slice d0 n.gates.length d', .slice e n.outs.length e'] 27)
  have X := GX.new w (.slice a n.ins.length a') (.slice b n.outN.length b') (.slice c n.flops.length c') (.slice d0 n.gates.length d') (.slice e n.outs.length e') 27
  generalize w.alloc (.cells #[.slice a n.ins.length a', .slice b n.outN.length b', .slice c n.flops.length c', .slice d0 n.gates.length d', .slice e n.outs.length e'] 27) = W0 at bel X ⊢
  generalize hk : w.heap.size = k at X ⊢
  have HK := Lib.hid hk
  clear hk
  obtain ⟨x0, x1, x2, x3, x4⟩ := id X
  have H1 := Lib.hid (fun W (hb : Below w.heap.size w W) => nfirst_any n _ sg W (hG0.below hb))
  have HE := Lib.hid (show ((fstN n : Nat) : Int) + (n.gates.length : Int) = (netsN n : Nat) by unfold netsN; push_cast; rfl)
  have hb1 : ((fstN n : Nat) : Int) ≤ 10000000 := by unfold fstN; push_cast; omega
  have hb0 : 0 ≤ ((fstN n : Nat) : Int) := by omega
  have hwr : IntKind.i64.wrap (((fstN n : Nat) : Int) + (n.gates.length : Int)) = ((fstN n : Nat) : Int) + (n.gates.length : Int) := IntWalk.i64_in _ (by omega)
  clear hG0 hA hC
  generalize ((fstN n : Nat) : Int) = F0 at H1 HE hb0 hb1 hwr
  have HB := Lib.hid (fun d os => bel.trans ((below_regrown W0 d os).mono bel.size))
  have g0 := cell_regrown x0
  have g1 := cell_regrown x1
  have g2 := cell_regrown x2
  have g3 := cell_regrown x3
  have g4 := cell_regrown x4
  clear x0 x1 x2 x3 x4
  refine wp_region_rel 7 (by kernel_rfl) (by kernel_rfl) ?_
  simp only [List.take_succ_cons, List.take_zero, List.drop_succ_cons, List.drop_zero]
  (refine rel_fix0 (fun K hK => ?_); go_simp; refine hK _ ?_; clear hK K)
  (refine rel_fix0 (fun K hK => ?_); go_simp; apply Exists.intro; refine ⟨fun _ _ => ?_, hK _ ?_⟩; (with_reducible exact ret_fix (H1.out _ (HB.out _ _))); clear hK K)
  (refine rel_fix0 (fun K hK => ?_); go_simp; refine hK _ ?_; clear hK K)
  (refine rel_fix0 (fun K hK => ?_); go_simp; refine hK _ ?_; clear hK K)
  (refine rel_fix0 (fun K hK => ?_); go_simp; refine hK _ ?_; clear hK K)
  (refine rel_fix0 (fun K hK => ?_); go_simp; refine hK _ ?_; clear hK K)
  (refine rel_fix0 (fun K hK => ?_); go_simp; refine hK _ ?_; clear hK K)
  refine rel_nil ?_
  intro d os
  simp only [relAll]
  replace bel := HB.out d os
  clear g0 g1 g2 g3 g4 HB
  generalize grow (redrawn _ d) os = WZ at bel ⊢
  go_wp2_with fail
  go_ret
  exact ⟨ret_num HE.out, bel⟩
set_option maxRecDepth 100000 in
set_option maxHeartbeats 4000000 in
theorem checkNets_any (m : Int) (l : List Int) (v : Value) (hn : l.length ≤ 4000000000) (w : World) (h : RowOf 1 encI l v w) : Calls Try.prog 70 #[v, .int .i64 m] w fun e w' => e = .returned (.int .i64 (checkE m l)) ∧ Below w.heap.size w w' := by
  obtain ⟨ad, cp, rfl, hcp, R⟩ := h.open'
  clear h
  go_enter Try.func70, Try.ntmps70
  go_wp2_with fail
  go_loopw [9] (fun i wr => ∃ j : Nat, j ≤ l.length ∧ i = .int .i64 (j : Int) ∧ Hid (checkE m l = checkE m (l.drop j)) ∧ wr = w) (fun i _ => l.length - (intOf i).toNat)
  case atStart => exact ⟨0, Nat.zero_le _, rfl, Lib.hid rfl, rfl⟩
  case round =>
    obtain ⟨j, hj, rfl, hE, rfl⟩ := hrel
    have hj0 : (0 : Int) ≤ (j : Int) := by omega
    by_cases hlt : j < l.length
    · have hji : (j : Int) < (l.length : Int) := by omega
      have hd : l.drop j = l[j]! :: l.drop (j + 1) := by rw [getElem!_pos l j hlt]; exact List.drop_eq_getElem_cons hlt
      have HE := Lib.hid (show checkE m l = if badN m l[j]! = true then 2 else checkE m (l.drop (j + 1)) by rw [hE.out, hd, checkE_cons])
      obtain ⟨bb, oo, hdd, hcell⟩ := R.pick (by omega)
      subst hdd
      have c0 := hcell j hlt 0 _ rfl
      simp only [Nat.mul_one, Nat.add_zero] at c0
      clear hcell hd hE
      generalize l[j]! = x at c0 HE
      by_cases h1 : x < 0
      · have HR := Lib.hid (show checkE m l = 2 by rw [HE.out, if_pos (by unfold badN; rw [decide_eq_true h1]; rfl)])
        go_wp2_with fail
        go_ret
        exact ⟨ret_num HR.out.symm, Below.refl _ _⟩
      by_cases h2 : m ≤ x
      · have HR := Lib.hid (show checkE m l = 2 by rw [HE.out, if_pos (by unfold badN; rw [decide_eq_true h2, Bool.or_true])])
        go_wp2_with fail
        go_ret
        exact ⟨ret_num HR.out.symm, Below.refl _ _⟩
      have HR := Lib.hid (show checkE m l = checkE m (l.drop (j + 1)) by rw [HE.out, if_neg (by unfold badN; rw [decide_eq_false h1, decide_eq_false h2]; decide)])
      clear HE
      go_wp2_with fail
      go_roundw
      case rel => exact ⟨j + 1, by omega, by go_num, HR, by first | rfl | trivial⟩
      all_goals first | done | (simp [intOf]; done) | (simp [intOf]; omega)
    · have hji : ¬ (j : Int) < (l.length : Int) := by omega
      have HR := Lib.hid (show checkE m l = 0 by rw [hE.out, List.drop_of_length_le (by omega)]; rfl)
      go_wp2_with fail
      go_ret
      exact ⟨ret_num HR.out.symm, Below.refl _ _⟩
set_option maxRecDepth 100000 in
set_option maxHeartbeats 4000000 in
theorem formGate_any (g : Ga) (m : Int) (hl : g.ins.length ≤ 1048576) (w : World) (hI : GaIn g w) : Calls Try.prog 69 #[.agg #[.int .i64 g.cell, .int .u64 (U g.tab), .slice g.ad g.ins.length g.cp], .int .i64 m] w fun e w' => e = .returned (.int .i64 (gateF m g)) ∧ Below w.heap.size w w' := by
  obtain ⟨y0, y1, y2, y3, y4⟩ := g
  obtain ⟨hr, hcp, hnl⟩ := hI
  simp only at hr hcp hnl hl
  go_enter Try.func69, Try.ntmps69
  go_upto_region 1 with fail
  have bel := (Below.refl w.heap.size w).alloc (Nat.le_refl _) (.cells #[.int .i64 y0, .int .u64 (U y1), .slice y3 y2.length y4] 82)
  have z1 : (w.alloc (.cells #[.int .i64 y0, .int .u64 (U y1), .slice y3 y2.length y4] 82)).cell? ⟨w.heap.size, 1, none⟩ = some (.int .u64 (U y1)) := by go_simp
  have z2 : (w.alloc (.cells #[.int .i64 y0, .int .u64 (U y1), .slice y3 y2.length y4] 82)).cell? ⟨w.heap.size, 2, none⟩ = some (.slice y3 y2.length y4) := by go_simp
  have hr6 := hr.below bel
  clear hr
  generalize w.alloc (.cells #[.int .i64 y0, .int .u64 (U y1), .slice y3 y2.length y4] 82) = WH at z1 z2 bel hr6 ⊢
  generalize hk : w.heap.size = q10 at z1 z2 ⊢
  have HK := Lib.hid hk
  clear hk
  by_cases h6 : 6 < y2.length
  · have q6 : (6 : Int) < (y2.length : Int) := by omega
    have HF := Lib.hid (gateF_large (m := m) (g := ⟨y0, y1, y2, y3, y4⟩) h6)
    go_wp2_with fail
    go_ret
    exact ⟨ret_num HF.out.symm, bel⟩
  have q6 : ¬ (6 : Int) < (y2.length : Int) := by omega
  have HMk := Lib.hid (fun W => mask_any (y2.length : Int) W)
  rw [roomI_nat] at HMk
  have hok : decide (y1 &&& ~~~ roomB y2.length = 0#64) = okT y2.length y1 := rfl
  have HD4 := Lib.hid (fun h => gateF_form (m := m) (g := ⟨y0, y1, y2, y3, y4⟩) h6 h)
  have HD5 := Lib.hid (fun h => gateF_rest (m := m) (g := ⟨y0, y1, y2, y3, y4⟩) h6 h)
  simp only at HD4 HD5
  clear h6
  generalize roomB y2.length = R at HMk hok
  generalize okT y2.length y1 = bo at hok HD4 HD5
  go_upto_region 3 with fail
  have HBS := Lib.hid (fun d os => below_regrown WH d os)
  have HZ2 := Lib.hid z2
  have g1 := cell_regrown z1
  have g2 := cell_regrown z2
  clear z1 z2
  have hne : (y1 &&& ~~~ R != 0#64) = !bo := by
    rw [← hok]
    by_cases h : y1 &&& ~~~ R = 0#64
    · rw [h]; decide
    · rw [decide_eq_false h]; exact bne_iff_ne.2 h
  clear hok
  refine wp_region_rel 8 (by kernel_rfl) (by kernel_rfl) ?_
  simp only [List.take_succ_cons, List.take_zero, List.drop_succ_cons, List.drop_zero]
  (refine rel_fix0 (fun K hK => ?_); go_simp; refine hK _ ?_; clear hK K)
  (refine rel_fix0 (fun K hK => ?_); go_simp; refine hK _ ?_; clear hK K)
  (refine rel_fix0 (fun K hK => ?_); go_simp; refine hK _ ?_; clear hK K)
  (refine rel_fix0 (fun K hK => ?_); go_simp; refine hK _ ?_; clear hK K)
  (refine rel_fix0 (fun K hK => ?_); go_simp; refine hK _ ?_; clear hK K)
  (refine rel_fix0 (fun K hK => ?_); go_simp; apply Exists.intro; refine ⟨fun _ _ => ?_, hK _ ?_⟩; (with_reducible exact ret_fix (HMk.out _)); clear hK K)
  (refine rel_fix0 (fun K hK => ?_); go_simp; refine hK _ ?_; clear hK K)
  (refine rel_fix0 (fun K hK => ?_); go_simp; refine hK _ ?_; clear hK K)
  refine rel_nil ?_
  intro d os
  simp only [relAll]
  have hb5 := HBS.out d os
  have bel7 := bel.trans (hb5.mono bel.size)
  have hr7 := hr6.below hb5
  have z2 := hb5.cell (p := ⟨q10, 2, none⟩) (World.block_lt_of_cell? _ _ HZ2.out)
  rw [HZ2.out] at z2
  clear g1 g2 HBS HZ2 hr6 hb5 bel
  generalize grow (redrawn _ d) os = W5 at bel7 hr7 z2 ⊢
  cases bo with
  | false =>
    have HF := Lib.hid (HD4.out rfl)
    go_wp2_with fail
    go_ret
    exact ⟨ret_num HF.out.symm, bel7⟩
  | true =>
    have HF := Lib.hid (HD5.out rfl)
    have HC := Lib.hid (checkNets_any m y2 (.slice y3 y2.length y4) (by omega) W5 (RowOf.mk hcp hr7))
    go_wp2_with (first | (go_at_call 70; refine HC.out.mono ?_; rintro e w3 ⟨rfl, hb3⟩))
    go_ret
    exact ⟨ret_num (by rw [HF.out]; rfl), bel7.trans (hb3.mono bel7.size)⟩
set_option maxRecDepth 100000 in
set_option maxHeartbeats 8000000 in
theorem roots_anyN (n : Nl) (v : Value) (sg : SmN n) (w : World) (hG : NO n v w) : Calls Try.prog 71 #[v] w fun e w' => ∃ u, e = .returned u ∧ OwnK w.heap.size 3 1 encI w' u (rootsP n) ∧ Below w.heap.size w w' := by
  have hG0 := hG
  obtain ⟨a, b, c, d0, e, a', b', c', d', e', rfl, hC, hA⟩ := hG.all
  clear hG
  have s3 := sg.flops
  have s5 := sg.outs
  go_enter Try.func71, Try.ntmps71
  go_upto_region 2 with fail
  have bel := (Below.refl w.heap.size w).alloc (Nat.le_refl _) (.cells #[.slice a n.ins.length a', .slice b n.outN.length b', .slice c n.flops.length c', .slice d0 n.gates.length d', .slice e n.outs.length e'] 27)
  have X := GX.new w (.slice a n.ins.length a') (.slice b n.outN.length b') (.slice c n.flops.length c') (.slice d0 n.gates.length d') (.slice e n.outs.length e') 27
  generalize w.alloc (.cells #[.slice a n.ins.length a', .slice b n.outN.length b', .slice c n.flops.length c', .slice d0 n.gates.length d', .slice e n.outs.length e'] 27) = W0 at bel X ⊢
  generalize hk : w.heap.size = k at X ⊢
  have HK := Lib.hid hk
  clear hk
  obtain ⟨x0, x1, x2, x3, x4⟩ := id X
  have HX := Lib.hid (fun W (hb : Below W0.heap.size W0 W) => X.below hb)
  have HA := Lib.hid (fun W (hb : Below W0.heap.size W0 W) => hA.below (bel.trans (hb.mono bel.size)))
  obtain ⟨i0, ihi, ihz, ihs, ihb⟩ := infoNJ_parts
  have O1 : OwnK W0.heap.size 3 1 encI W0 (.slice none 0 0) ([] : List Int) := OwnK.nil _ _ _ _ _
  clear X hA hG0
  go_upto_block 0 with fail
  clear x0 x1 x2 x3 x4
  go_wp2_with fail
  go_loopw [3, 9] (fun u i wr => ∃ j : Nat, j ≤ n.flops.length ∧ i = .int .i64 (j : Int) ∧ Hid (OwnK W0.heap.size 3 1 encI wr u ((n.flops.take j).flatMap fun f => [f.d, f.en])) ∧ Hid (Below W0.heap.size W0 wr)) (fun _ i _ => n.flops.length - (intOf i).toNat)
  case atStart => exact ⟨0, Nat.zero_le _, rfl, Lib.hid O1, Lib.hid (Below.refl _ _)⟩
  case round =>
    clear O1
    obtain ⟨j, hj, rfl, hO, hB⟩ := hrel
    rename World => WR
    have hj0 : (0 : Int) ≤ (j : Int) := by omega
    have HLL := Lib.hid (flat2_len (n.flops.take j))
    have HL : ((n.flops.take j).flatMap fun f => [f.d, f.en]).length ≤ 8000000 := by rw [HLL.out, List.length_take]; omega
    by_cases hlt : j < n.flops.length
    · have hji : (j : Int) < (n.flops.length : Int) := by omega
      have HT := Lib.hid (show ((n.flops.take (j + 1)).flatMap fun f => [f.d, f.en]) = ((n.flops.take j).flatMap fun f => [f.d, f.en]) ++ [n.flops[j]!.d, n.flops[j]!.en] by rw [tk1 _ hlt, List.flatMap_append]; rfl)
      obtain ⟨bb, oo, hdd, hcell⟩ := (HA.out _ hB.out).flops.pick (by omega)
      subst hdd
      have c0 := hcell j hlt 0 _ rfl
      have c1 := hcell j hlt 1 _ rfl
      have c2 := hcell j hlt 2 _ rfl
      have c3 := hcell j hlt 3 _ rfl
      have c4 := hcell j hlt 4 _ rfl
      simp only [Nat.add_zero] at c0
      clear hcell HLL
      generalize ((n.flops.take j).flatMap fun f => [f.d, f.en]) = L at HT HL hO
      generalize n.flops[j]! = r at c0 c1 c2 c3 c4 HT
      obtain ⟨r0, r1, r2, r3, r4⟩ := r
      simp only at c0 c1 c2 c3 c4 HT
      obtain ⟨ad, cp, hv⟩ := hO.out.slice
      subst hv
      go_upto_region 5 with fail
      have bA := (Below.refl WR.heap.size WR).alloc (Nat.le_refl _) (.cells #[.string r0, .int .i64 r1, .int .i64 r2, .int .i64 r3, .bool r4] 84)
      have y2 : (WR.alloc (.cells #[.string r0, .int .i64 r1, .int .i64 r2, .int .i64 r3, .bool r4] 84)).cell? ⟨WR.heap.size, 2, none⟩ = some (.int .i64 r2) := by go_simp
      have y3 : (WR.alloc (.cells #[.string r0, .int .i64 r1, .int .i64 r2, .int .i64 r3, .bool r4] 84)).cell? ⟨WR.heap.size, 3, none⟩ = some (.int .i64 r3) := by go_simp
      have O2 := hO.out.below bA
      have B2 := hB.out.trans (bA.mono hB.out.size)
      have hs2 := B2.size
      clear bA c0 c1 c2 c3 c4
      generalize WR.alloc (.cells #[.string r0, .int .i64 r1, .int .i64 r2, .int .i64 r3, .bool r4] 84) = WS at O2 B2 hs2 y2 y3 ⊢
      generalize WR.heap.size = q10 at y2 y3 ⊢
      have bB := (Below.refl WS.heap.size WS).alloc (Nat.le_refl _) (.cells #[.int .i64 r2, .int .i64 r3] 3)
      have O4 := O2.below bB
      have hy := row2_at r2 r3 WS 3
      have hs4 := (B2.trans (bB.mono B2.size)).size
      go_wp2_with (at_builtin; refine wpList_append_row2 (f := fun b : Int => Value.int .i64 b) (fun _ => rfl) rfl _ _ 25 rfl (W0.heap.size) 3 i0 (.int .i64 0) 8 Try.underlying25 ihi ihz ihs ihb (by decide) _ L rfl O4.ownN (some ⟨WS.heap.size, 0, none⟩) [r2, r3] 2 rfl (fun h => by cases h) (Nat.le_refl _) hy (show L.length + 2 ≤ maxLen by unfold maxLen; omega) (show (L.length + 2) * 8 ≤ 140737488355328 by omega) (by first | omega | (simp; omega)) ?_)
      intro v5 w5 O5 hb5 hg5
      have HO5 := Lib.hid O5.ownKN
      have HB5 := Lib.hid ((B2.trans (bB.mono B2.size)).trans hb5)
      clear O5 hb5 hg5 O4 hy hO hB y2 y3 O2 B2 bB
      go_wp2_with fail
      go_roundw
      case rel => exact ⟨j + 1, by omega, by go_num, (by rw [HT.out]; exact HO5), HB5⟩
      all_goals first | done | (simp [intOf]; done) | (simp [intOf]; omega)
    · have hji : ¬ (j : Int) < (n.flops.length : Int) := by omega
      have hO2 := hO.out
      have hB2 := hB.out
      rw [List.take_of_length_le (by omega)] at hO2 HL
      have HR := Lib.hid (show (n.flops.flatMap fun f => [f.d, f.en]) ++ n.outs = rootsP n from rfl)
      obtain ⟨x0, x1, x2, x3, x4⟩ := HX.out _ hB2
      have hR := (HA.out _ hB2).outs
      have hs2 := hB2.size
      clear hO hB HLL
      generalize (n.flops.flatMap fun f => [f.d, f.en]) = L at hO2 HL HR
      obtain ⟨ad, cp, hv⟩ := hO2.slice
      subst hv
      go_wp2_with (at_builtin; refine wpList_append_row2 (f := fun b : Int => Value.int .i64 b) (fun _ => rfl) rfl _ _ 25 rfl (W0.heap.size) 3 i0 (.int .i64 0) 8 Try.underlying25 ihi ihz ihs ihb (by decide) _ L rfl hO2.ownN _ n.outs _ rfl hC.outsN hC.outs hR (by unfold maxLen; first | omega | (simp; omega)) (by first | omega | (simp; omega)) (by first | omega | (simp; omega)) ?_)
      intro v5 w5 O5 hb5 hg5
      have O6 := O5.ownKN
      rw [HR.out] at O6
      have HO6 := Lib.hid (O6.mono1 bel.size)
      have HB6 := Lib.hid (bel.trans ((hB2.trans hb5).mono bel.size))
      clear O5 O6 hb5 hg5 hO2
      go_wp2_with fail
      go_ret
      exact ⟨_, rfl, HO6.out, HB6.out⟩
end Go.Proofs.Ytimojbjamfckmaa
