/- The program's Eval: what it answers. Condition: rows of at most 4,000,000,000 elements. -/
import Derived.Test.YtcpifmhcebfglaaMgV
import Derived.Test.YtcpifmhcebfglaaGpE
namespace Go.Proofs.Ytcpifmhcebfglaa
open Go Go.RowKit Go.Sort
set_option linter.unusedVariables false
def laneW (l : List Bool) : List (BitVec 64) := l.map (fun b => if b = true then 1#64 else 0#64)
theorem laneW_U (l : List Bool) : (laneW l).map U = lanesL l := by
  unfold laneW lanesL
  rw [List.map_map]
  exact List.map_congr_left fun b _ => by cases b <;> rfl
theorem laneW_len (l : List Bool) : (laneW l).length = l.length := by simp [laneW]
theorem laneW_0 (l : List Bool) : (laneW l).map (·.getLsbD 0) = l := by
  unfold laneW
  rw [List.map_map]
  conv => rhs; rw [← List.map_id l]
  exact List.map_congr_left fun b _ => by cases b <;> rfl
theorem lanesF_any (l : List Bool) (v : Value) (w : World) (hn : l.length ≤ 4000000000) (h : RowC (fun b => Value.bool b) l v w) : Calls Try.prog 44 #[v] w fun e w' => ∃ u, e = .returned u ∧ RowC (fun b => Value.int .u64 (U b)) (laneW l) u w' ∧ Below w.heap.size w w' :=
  (lanes_any l v w hn h).mono fun e w' ⟨q, h1, h2, h3, h4⟩ => ⟨_, h1, rowC_W (by rw [laneW_U]; exact h2.rowc _ (lanes_len l)), h4⟩
theorem laneF_any (V : List (BitVec 64)) (v : Value) (w : World) (hn : V.length ≤ 4000000000) (h : RowOf 1 encW V v w) : Calls Try.prog 74 #[v] w fun e w' => ∃ q, e = .returned (.slice (some ⟨q, 0, none⟩) V.length V.length) ∧ Arr 4 (fun b => Value.bool b) q (V.map (·.getLsbD 0)) w' ∧ w.heap.size ≤ q ∧ Below w.heap.size w w' := by
  have := lane_any (V.map U) v w (by rw [List.length_map]; exact hn) (isW_U V) (row_U h)
  rwa [List.length_map, map_colB] at this
theorem rowc_sta {α : Type} [Inhabited α] (f : α → Value) (l : List α) : Sta (RowC f l) := fun v w w' h hb => h.below hb
/-- two rows of words and a number -/
def WT (O N : List (BitVec 64)) (e : Int) : Fa := fun v w => ∃ vo vn, v = .tuple #[vo, vn, .int .i64 e] ∧ RowOf 1 encW O vo w ∧ RowOf 1 encW N vn w
theorem wt_sta (O N : List (BitVec 64)) (e : Int) : Sta (WT O N e) := fun v w w' ⟨vo, vn, h1, h2, h3⟩ hb => ⟨vo, vn, h1, h2.below hb, h3.below hb⟩
theorem rowof_sta {α : Type} [Inhabited α] (k : Nat) (enc : α → List Value) (l : List α) : Sta (RowOf k enc l) := fun v w w' h hb => h.below hb
theorem ow_len (g : Gr) (ins st : List (BitVec 64)) : (owL g ins st).length ≤ g.outs.length := by unfold owL outW; split <;> simp
theorem nw_len (g : Gr) (ins st : List (BitVec 64)) : (nwL g ins st).length ≤ g.regs.length := by unfold nwL nxtW; split <;> simp
theorem ow_0 (g : Gr) (ins st : List Bool) : (owL g (laneW ins) (laneW st)).map (·.getLsbD 0) = evO g ins st := by
  unfold evO owL
  rw [laneW_len, laneW_len]
  split
  · rename_i h
    obtain ⟨h0, p1, p2⟩ := wid_ok h
    rw [out_lane g (vg_of h0) _ _ (by rw [laneW_len]; exact p1) (by rw [laneW_len]; exact p2) 0 (by decide), laneW_0, laneW_0]
  · rfl
theorem nw_0 (g : Gr) (ins st : List Bool) : (nwL g (laneW ins) (laneW st)).map (·.getLsbD 0) = evN g ins st := by
  unfold evN nwL
  rw [laneW_len, laneW_len]
  split
  · rename_i h
    obtain ⟨h0, p1, p2⟩ := wid_ok h
    rw [nxt_lane g (vg_of h0) _ _ (by rw [laneW_len]; exact p1) (by rw [laneW_len]; exact p2) 0 (by decide), laneW_0, laneW_0]
  · rfl
theorem rowC_nil {α : Type} [Inhabited α] (f : α → Value) (w : World) : RowC f ([] : List α) (.slice none 0 0) w := ⟨none, 0, rfl, Nat.le_refl _, fun _ => rfl, .inl rfl⟩
set_option maxRecDepth 100000 in
set_option maxHeartbeats 8000000 in
theorem eval_anyC (g : Gr) (v : Value) (ins st : List Bool) (vi vs : Value) (sg : Small g) (hn : ins.length ≤ 4000000000) (hs : st.length ≤ 4000000000) (w : World) (hG : GO g v w) (h1 : RowC (fun b => Value.bool b) ins vi w) (h2 : RowC (fun b => Value.bool b) st vs w) : Calls Try.prog 21 #[v, vi, vs] w fun e w' => ∃ vo vn, e = .returned (.tuple #[vo, vn, .int .i64 (widE g ins.length st.length)]) ∧ RowC (fun b => Value.bool b) (evO g ins st) vo w' ∧ RowC (fun b => Value.bool b) (evN g ins st) vn w' ∧ Below w.heap.size w w' := by
  have hG0 := hG
  obtain ⟨a, b, c, d0, e, a', b', c', d', e', rfl, hC, hA⟩ := hG.all
  clear hG
  have s5 := sg.outs
  have s3 := sg.regs
  have HI := Lib.hid (fun W (hb : Below w.heap.size w W) => h1.below hb)
  have HS := Lib.hid (fun W (hb : Below w.heap.size w W) => h2.below hb)
  obtain ⟨ai, ci, rfl, hic, hin, hir⟩ := h1
  obtain ⟨az, cz, rfl, hsc, hsn, hsr⟩ := h2
  clear hir hsr
  go_enter Try.func21, Try.ntmps21
  go_upto_region 1 with fail
  have bel := (Below.refl w.heap.size w).alloc (Nat.le_refl _) (.cells #[.slice a g.ins.length a', .slice b g.outN.length b', .slice c g.regs.length c', .slice d0 g.ands.length d', .slice e g.outs.length e'] 31)
  have X := GX.new w (.slice a g.ins.length a') (.slice b g.outN.length b') (.slice c g.regs.length c') (.slice d0 g.ands.length d') (.slice e g.outs.length e') 31
  generalize w.alloc (.cells #[.slice a g.ins.length a', .slice b g.outN.length b', .slice c g.regs.length c', .slice d0 g.ands.length d', .slice e g.outs.length e'] 31) = W0 at bel X ⊢
  generalize hk : w.heap.size = k at X ⊢
  have HK := Lib.hid hk
  clear hk
  obtain ⟨x0, x1, x2, x3, x4⟩ := id X
  have HB := Lib.hid (fun d os => bel.trans ((below_regrown W0 d os).mono bel.size))
  have C1 := Lib.hid (fun W (hb : Below w.heap.size w W) => lanesF_any ins _ W hn (HI.out W hb))
  have C2 := Lib.hid (fun W (hb : Below w.heap.size w W) => lanesF_any st _ W hs (HS.out W hb))
  have C3 := Lib.hid (fun u1 u2 W (hb : Below w.heap.size w W) q1 q2 => wordsF_any g _ (laneW ins) (laneW st) u1 u2 sg W (hG0.below hb) q1 q2)
  have HE0 := Lib.hid (ow_0 g ins st)
  have HE1 := Lib.hid (nw_0 g ins st)
  have HL0 := ow_len g (laneW ins) (laneW st)
  have HL1 := nw_len g (laneW ins) (laneW st)
  rw [laneW_len, laneW_len] at C3
  clear hG0 hA hC HI HS
  generalize owL g (laneW ins) (laneW st) = O at C3 HE0 HL0
  generalize nwL g (laneW ins) (laneW st) = N at C3 HE1 HL1
  generalize laneW ins = LI at C1 C3
  generalize laneW st = LS at C2 C3
  generalize hee : widE g (ins.length : Int) (st.length : Int) = ee at C3
  have HEE := Lib.hid hee
  clear hee
  have g0 := cell_regrown x0
  have g1 := cell_regrown x1
  have g2 := cell_regrown x2
  have g3 := cell_regrown x3
  have g4 := cell_regrown x4
  clear x0 x1 x2 x3 x4
  refine wp_region_rel 13 (by kernel_rfl) (by kernel_rfl) ?_
  simp only [List.take_succ_cons, List.take_zero, List.drop_succ_cons, List.drop_zero]
  (refine rel_fix0 (fun K hK => ?_); go_simp; refine hK _ ?_; clear hK K)
  (refine rel_fix0 (fun K hK => ?_); go_simp; refine hK _ ?_; clear hK K)
  refine rel_fact [] (RowC (fun b => Value.int .u64 (U b)) LI) 14 rfl (by simp [Act.put]) (rowc_sta _ _) (by rfl) (by kernel_rfl) (by kernel_rfl) ?_ ?_
  · intro d os
    simp only [relAll]
    go_simp
    exact ret_fact (C1.out _ (HB.out _ _))
  (refine rel_fix (by kernel_rfl) (by kernel_rfl) (fun K hK => ?_); go_simp; refine hK _ ?_; clear hK K)
  refine rel_fact [] (RowC (fun b => Value.int .u64 (U b)) LS) 16 rfl (by simp [Act.put]) (rowc_sta _ _) (by rfl) (by kernel_rfl) (by kernel_rfl) ?_ ?_
  · intro d os
    simp only [relAll]
    go_simp
    exact ret_fact (C2.out _ (HB.out _ _))
  refine rel_fact [(16, _), (14, _)] (WT O N ee) 17 rfl (by simp [Act.put]) (wt_sta _ _ _) (by rfl) (by kernel_rfl) (by kernel_rfl) ?_ ?_
  · intro d os
    simp only [relAll]
    rintro u2 r2 u1 r1
    go_simp
    exact ret_fact ((C3.out _ _ _ (HB.out _ _) r1 r2).mono fun ee w' ⟨vo, vn, q1, q2, q4, q3⟩ => ⟨_, q1, ⟨vo, vn, rfl, q2, q4⟩, q3⟩)
  refine rel_fact [(17, _)] (WT O N ee) 11 rfl (by simp [Act.put]) (wt_sta _ _ _) (by rfl) (by kernel_rfl) (by kernel_rfl) ?_ ?_
  · intro d os
    simp only [relAll]
    rintro u1 r1
    go_simp
    all_goals exact ⟨r1, Below.refl _ _⟩
  refine rel_fact [(11, _)] (RowOf 1 encW O) 18 rfl (by simp [Act.put]) (rowof_sta _ _ _) (by rfl) (by kernel_rfl) (by kernel_rfl) ?_ ?_
  · intro d os
    simp only [relAll]
    rintro u1 ⟨ga, gb, rfl, q1, q2⟩
    go_simp
    all_goals exact ⟨q1, Below.refl _ _⟩
  refine rel_fact [(11, _)] (RowOf 1 encW N) 19 rfl (by simp [Act.put]) (rowof_sta _ _ _) (by rfl) (by kernel_rfl) (by kernel_rfl) ?_ ?_
  · intro d os
    simp only [relAll]
    rintro u1 ⟨ga, gb, rfl, q1, q2⟩
    go_simp
    all_goals exact ⟨q2, Below.refl _ _⟩
  refine rel_use [(11, _)] (.int .i64 ee) (by rfl) (by kernel_rfl) (by kernel_rfl) ?_ ?_
  · intro d os
    simp only [relAll]
    rintro u1 ⟨ga, gb, rfl, q1, q2⟩
    go_simp
  refine rel_fact [(18, _)] (RowOf 1 encW O) 9 rfl (by simp [Act.put]) (rowof_sta _ _ _) (by rfl) (by kernel_rfl) (by kernel_rfl) ?_ ?_
  · intro d os
    simp only [relAll]
    rintro u1 r1
    go_simp
    all_goals exact ⟨r1, Below.refl _ _⟩
  refine rel_fact [(19, _)] (RowOf 1 encW N) 10 rfl (by simp [Act.put]) (rowof_sta _ _ _) (by rfl) (by kernel_rfl) (by kernel_rfl) ?_ ?_
  · intro d os
    simp only [relAll]
    rintro u1 r1
    go_simp
    all_goals exact ⟨r1, Below.refl _ _⟩
  (refine rel_fix (by kernel_rfl) (by kernel_rfl) (fun K hK => ?_); go_simp; refine hK _ ?_; clear hK K)
  refine rel_nil ?_
  intro d os
  simp only [relAll]
  rintro v10 r10 v9 r9 v19 - v18 - v11 - v17 - v16 - v14 -
  replace bel := HB.out d os
  have R9 := r9
  have R10 := r10
  clear g0 g1 g2 g3 g4 HB C1 C2 C3 r9 r10
  generalize grow (redrawn W0 d) os = WZ at bel R9 R10 ⊢
  by_cases hz : ee = 0
  rotate_left
  · have hz2 : (ee == 0) = false := beq_eq_false_iff_ne.2 hz
    have hw0 : widE g (ins.length : Int) (st.length : Int) ≠ 0 := by rw [HEE.out]; exact hz
    have HR2 : Hid (evO g ins st = []) := Lib.hid (if_neg hw0)
    have HR3 : Hid (evN g ins st = []) := Lib.hid (if_neg hw0)
    clear hw0
    go_wp2_with fail
    exact bodyPost_ret (v := .tuple #[.slice none 0 0, .slice none 0 0, .int .i64 ee]) (by simp [results, Try.results21, go_sem]) rfl ⟨_, _, by rw [HEE.out], by rw [HR2.out]; exact rowC_nil _ _, by rw [HR3.out]; exact rowC_nil _ _, bel⟩
  subst hz
  have D1 := Lib.hid (laneF_any O v9 WZ (by omega) R9)
  have D2 := Lib.hid (fun W (hb : Below WZ.heap.size WZ W) => laneF_any N v10 W (by omega) (R10.below hb))
  clear R9 R10
  go_upto_region 4 with fail
  go_wp2_with (first | (go_at_call 74; refine D1.out.mono ?_; rintro ee w1 ⟨q1, rfl, A1, hq1, hb1⟩; clear D1) | (go_at_call 74; refine (D2.out _ hb1).mono ?_; rintro ee w2 ⟨q2, rfl, A2, hq2, hb2⟩; clear D2))
  exact bodyPost_ret (v := .tuple #[.slice (some ⟨q1, 0, none⟩) O.length O.length, .slice (some ⟨q2, 0, none⟩) N.length N.length, .int .i64 0]) (by simp [results, Try.results21, go_sem]) rfl ⟨_, _, by rw [HEE.out], by rw [← HE0.out]; exact (A1.below hb2).rowc _ (by simp), by rw [← HE1.out]; exact A2.rowc _ (by simp), bel.trans ((hb1.trans (hb2.mono hb1.size)).mono bel.size)⟩
theorem eval_any (g : Gr) (v : Value) (ins st : List Bool) (vi vs : Value) (sg : Small g) (hn : ins.length ≤ 4000000000) (hs : st.length ≤ 4000000000) (w : World) (hG : GO g v w) (h1 : RowC (fun b => Value.bool b) ins vi w) (h2 : RowC (fun b => Value.bool b) st vs w) : Calls Try.prog 21 #[v, vi, vs] w fun e w' => ∃ vo vn, e = .returned (.tuple #[vo, vn, .int .i64 (widE g ins.length st.length)]) ∧ RowOf 1 encB (evO g ins st) vo w' ∧ RowOf 1 encB (evN g ins st) vn w' ∧ Below w.heap.size w w' :=
  (eval_anyC g v ins st vi vs sg hn hs w hG h1 h2).mono fun e w' ⟨vo, vn, h1, h2, h3, h4⟩ => ⟨vo, vn, h1, h2.row, h3.row, h4⟩
theorem eval_holds : EvalC := fun g v ins st vi vs w sg hn hs hG h1 h2 => eval_any g v ins st vi vs sg hn hs w hG h1 h2
end Go.Proofs.Ytcpifmhcebfglaa
