/- The program's Cone and Support: what they answer. Conditions: rows of at most 4,000,000,000 elements, at most 4,000,000 literals. -/
import Derived.Test.YtbphhcjepeamcaaGpQ
import Derived.Test.YtbphhcjepeamcaaGlCn
namespace Go.Proofs.Ytbphhcjepeamcaa
open Go Go.RowKit Go.Sort
set_option linter.unusedVariables false
theorem rootsE_any (g : Gr) (l : List Int) : rootsE (1 + (g.ins.length : Int) + (g.regs.length : Int) + (g.ands.length : Int)) l = if anyB (allL g) l = true then 2 else 0 := by
  have e : (fun x => !hasL (1 + (g.ins.length : Int) + (g.regs.length : Int) + (g.ands.length : Int)) x) = badL (allL g) := funext fun x => by
    rw [has_bad, Bool.not_not, allL_eq]
  unfold rootsE anyB
  rw [e]
theorem any_no {n : Int} {l : List Int} (h : anyB n l = false) : ∀ x ∈ l, 0 ≤ x ∧ x < n := by
  intro x hx
  refine bad_no ?_
  unfold anyB at h
  cases e : badL n x with
  | false => rfl
  | true => rw [List.any_eq_true.2 ⟨x, hx, e⟩] at h; cases h
theorem idx_low (M : List Bool) (a : Nat) : idxL (fun k => decide (a ≤ k)) M a = [] := by
  unfold idxL
  rw [List.filter_eq_nil_iff.2]
  · rfl
  · intro k hk
    have := List.mem_range.1 hk
    simp; omega
theorem idx_congr {p q : Nat → Bool} (M : List Bool) : ∀ n, (∀ k, k < n → p k = q k) → idxL p M n = idxL q M n
  | 0, _ => rfl
  | n + 1, h => by rw [idx_succ, idx_succ, idx_congr M n (fun k hk => h k (by omega)), h n (by omega)]
theorem idx_more {p : Nat → Bool} (M : List Bool) (b : Nat) : ∀ d, (∀ k, b ≤ k → p k = false) → idxL p M (b + d) = idxL p M b
  | 0, _ => rfl
  | d + 1, h => by rw [← Nat.add_assoc, idx_succ, h (b + d) (by omega), Bool.and_false, if_neg (by decide), idx_more M b d h]
/-- a row and a number -/
def PT (L : List Int) (e : Int) : Fa := fun v w => ∃ vl, v = .tuple #[vl, .int .i64 e] ∧ RowOf 1 encI L vl w
theorem pt_sta (L : List Int) (e : Int) : Sta (PT L e) := fun v w w' ⟨vl, h1, h2⟩ hb => ⟨vl, h1, h2.below hb⟩
def betL (g : Gr) (rs : List Int) (a b : Nat) : List Int := if coneE g rs = 0 then idxL (fun k => decide (a ≤ k)) (belowG g rs) b else []
theorem bet_cone (g : Gr) (rs : List Int) : betL g rs 0 (nodesN g) = coneL g rs := by
  unfold betL coneL
  rw [idx_congr (p := fun k => decide (0 ≤ k)) (q := fun _ => true) (belowG g rs) (nodesN g) (fun k _ => by simp)]
theorem bet_sup (g : Gr) (rs : List Int) : betL g rs 1 (n0L g) = supL g rs := by
  unfold betL supL nodesN
  rw [idx_more (p := isSup g) (belowG g rs) (n0L g) g.ands.length (fun k hk => by unfold isSup; simp; omega)]
  rw [idx_congr (p := fun k => decide (1 ≤ k)) (q := isSup g) (belowG g rs) (n0L g) (fun k hk => by
    unfold isSup
    rw [decide_eq_true hk, Bool.and_true]
    by_cases h : 1 ≤ k
    · rw [decide_eq_true h, decide_eq_true (by omega)]
    · rw [decide_eq_false h, decide_eq_false (by omega)])]
set_option maxRecDepth 100000 in
set_option maxHeartbeats 8000000 in
theorem between_any (g : Gr) (v : Value) (rs : List Int) (vr : Value) (A B : Nat) (hAB : A ≤ B) (hBN : B ≤ n0L g + g.ands.length) (sg : Small g) (hrn : rs.length ≤ 4000000000) (w : World) (hG : GO g v w) (hr : RowOf 1 encI rs vr w) : Calls Try.prog 88 #[v, vr, .int .i64 (A : Int), .int .i64 (B : Int)] w fun e w' => ∃ vl, e = .returned (.tuple #[vl, .int .i64 (coneE g rs)]) ∧ RowOf 1 encI (betL g rs A B) vl w' ∧ Below w.heap.size w w' := by
  have hG0 := hG
  obtain ⟨a, b, c, d0, e, a', b', c', d', e', rfl, hC, hA⟩ := hG.all
  clear hG
  obtain ⟨ad, cpr, rfl, hcp, R⟩ := hr.open'
  go_enter Try.func88, Try.ntmps88
  go_upto_region 1 with fail
  have bel := (Below.refl w.heap.size w).alloc (Nat.le_refl _) (.cells #[.slice a g.ins.length a', .slice b g.outN.length b', .slice c g.regs.length c', .slice d0 g.ands.length d', .slice e g.outs.length e'] 28)
  have X := GX.new w (.slice a g.ins.length a') (.slice b g.outN.length b') (.slice c g.regs.length c') (.slice d0 g.ands.length d') (.slice e g.outs.length e') 28
  generalize w.alloc (.cells #[.slice a g.ins.length a', .slice b g.outN.length b', .slice c g.regs.length c', .slice d0 g.ands.length d', .slice e g.outs.length e'] 28) = W0 at bel X ⊢
  generalize hk : w.heap.size = k at X ⊢
  have HK := Lib.hid hk
  clear hk
  obtain ⟨x0, x1, x2, x3, x4⟩ := id X
  have H0 := Lib.hid (check_any g _ sg W0 (hG0.below bel))
  by_cases hz : faultG g = 0
  rotate_left
  · have HR : Hid (coneE g rs = faultG g) := Lib.hid (if_neg hz)
    have HR2 : Hid (betL g rs A B = []) := Lib.hid (if_neg (by rw [HR.out]; exact hz))
    generalize hf : faultG g = f at H0 hz
    have HFF := Lib.hid hf
    clear hf
    have hz2 : (f == 0) = false := beq_eq_false_iff_ne.2 hz
    go_wp2_with (first | (go_at_call 29; refine H0.out.mono ?_; rintro ee w1 ⟨rfl, hb1⟩))
    go_ret2
    exact ⟨_, by rw [HR.out, HFF.out]; rfl, by rw [HR2.out]; exact RowOf.nil, bel.trans (hb1.mono bel.size)⟩
  have vg := vg_of hz
  have HR : Hid (coneE g rs = if anyB (allL g) rs = true then 2 else 0) := Lib.hid (if_pos hz)
  rw [hz] at H0
  clear hz
  go_upto_region 4 with (first | (go_at_call 29; refine H0.out.mono ?_; rintro ee W1 ⟨rfl, hb1⟩))
  have bel1 := bel.trans (hb1.mono bel.size)
  have X1 := X.below hb1
  have H1 := Lib.hid (checkRoots_any g _ rs _ W1 sg (by omega) (hG0.below bel1) (hr.below bel1))
  rw [rootsE_any] at H1
  clear x0 x1 x2 x3 x4 X hb1 bel H0
  obtain ⟨x0, x1, x2, x3, x4⟩ := id X1
  cases hb : anyB (allL g) rs with
  | true =>
    rw [hb, if_pos rfl] at HR H1
    have HR2 : Hid (betL g rs A B = []) := Lib.hid (if_neg (by rw [HR.out]; decide))
    clear hb
    go_wp2_with (first | (go_at_call 76; refine H1.out.mono ?_; rintro ee w2 ⟨rfl, hb2⟩))
    go_ret2
    exact ⟨_, by rw [HR.out]; rfl, by rw [HR2.out]; exact RowOf.nil, bel1.trans (hb2.mono bel1.size)⟩
  | false =>
  rw [hb, if_neg (by decide)] at HR H1
  have HR2 : Hid (betL g rs A B = idxL (fun k => decide (A ≤ k)) (belowG g rs) B) := Lib.hid (if_pos HR.out)
  have hin := any_no hb
  clear hb
  go_upto_region 7 with (first | (go_at_call 76; refine H1.out.mono ?_; rintro ee W2 ⟨rfl, hb2⟩))
  have bel2 := bel1.trans (hb2.mono bel1.size)
  have X2 := X1.below hb2
  have H2 := Lib.hid (cone_any g _ rs _ vg sg hrn hin W2 (hG0.below bel2) (hr.below bel2))
  clear x0 x1 x2 x3 x4 X1 hb2 bel1 H1
  obtain ⟨x0, x1, x2, x3, x4⟩ := id X2
  go_upto_region 8 with (first | (go_at_call 92; refine H2.out.mono ?_; rintro ee W3 ⟨q, rfl, A3, hq3, hb3⟩))
  have bel3 := bel2.trans (hb3.mono bel2.size)
  have n1 := vg.ins
  have n2 := vg.regs
  have n3 := vg.ands
  have HML := Lib.hid (belowG_len g rs)
  have HBEL := Lib.hid bel3
  have HNB : Hid (n0L g + g.ands.length ≤ 5000) := Lib.hid (by unfold n0L; omega)
  clear x0 x1 x2 x3 x4 X2 hb3 bel2 bel3 H2 hG0 hC hA hr R hin vg
  generalize belowG g rs = M at A3 HML HR2
  generalize n0L g + g.ands.length = ND at HML hBN HNB
  obtain ⟨i0, ihi, ihz, ihs, ihb⟩ := infoMJ_parts
  go_wp2_with fail
  go_loopw [13, 14] (fun u i wr => ∃ j : Nat, A ≤ j ∧ j ≤ B ∧ i = .int .i64 (j : Int) ∧ Hid (OwnK W3.heap.size 3 1 encI wr u (idxL (fun k => decide (A ≤ k)) M j)) ∧ Hid (Below W3.heap.size W3 wr)) (fun _ i _ => B - (intOf i).toNat)
  case atStart => exact ⟨A, Nat.le_refl _, hAB, rfl, Lib.hid (by rw [idx_low]; exact OwnK.nil _ _ _ _ _), Lib.hid (Below.refl _ _)⟩
  case round =>
    obtain ⟨j, hj1, hj, rfl, hO, hB⟩ := hrel
    rename World => WR
    have hj0 : (0 : Int) ≤ (j : Int) := by omega
    by_cases hlt : j < B
    · have hji : (j : Int) < (B : Int) := by omega
      have hjn : (j : Int) < (ND : Int) := by omega
      have hnb := HNB.out
      have a1 : WR.cell? ⟨q, j, none⟩ = some (.bool M[j]!) := (A3.below hB.out).cell (by rw [HML.out]; omega)
      obtain ⟨ad2, cp2, hv⟩ := hO.out.slice
      subst hv
      have HIL := idx_len (fun k => decide (A ≤ k)) M j
      have HT := Lib.hid (idx_succ (fun k => decide (A ≤ k)) M j)
      rw [decide_eq_true hj1, Bool.and_true] at HT
      cases hm : M[j]! with
      | false =>
        rw [hm] at a1 HT
        rw [if_neg (by decide)] at HT
        have HO := Lib.hid hO.out
        have HB := Lib.hid hB.out
        clear hm hO hB
        go_wp2_with fail
        go_roundw
        case rel => exact ⟨j + 1, by omega, by omega, by go_num, (by rw [HT.out]; exact HO), HB⟩
        all_goals first | done | (simp [intOf]; done) | (simp [intOf]; omega)
      | true =>
        rw [hm] at a1 HT
        rw [if_pos rfl] at HT
        have O1 := hO.out
        have HB := Lib.hid hB.out
        have hsw := hB.out.size
        clear hm hO hB
        generalize idxL (fun k => decide (A ≤ k)) M j = L at O1 HT HIL
        go_upto_region 13 with fail
        have O4 := O1.below ((Below.refl _ WR).alloc (Nat.le_refl _) (.cells #[.int .i64 (j : Int)] 3))
        have hy : ∀ (q : Nat) (u : Value), (encI (j : Int))[q]? = some u → (WR.alloc (.cells #[.int .i64 ((j : Int))] 3)).cell? ⟨WR.heap.size, q, none⟩ = some u := by
          intro q u hq
          match q, hq with
          | 0, hq => cases hq; go_simp
        go_wp2_with (at_builtin; refine wpList_append_one (enc := encI) (k := 1) (fun _ => rfl) (by decide) (fun x u hu => by simp at hu; rcases hu with rfl; rfl) rfl _ _ 52 rfl (W3.heap.size) 3 i0 (.int .i64 0) 8 Try.underlying52 ihi ihz ihs ihb (by decide) _ L rfl O4 WR.heap.size 1 ((j : Int)) rfl hy (show L.length + 1 ≤ maxLen by unfold maxLen; omega) (show (L.length + 1) * 8 ≤ 140737488355328 by omega) (by first | omega | (simp; omega)) ?_)
        intro v5 w5 O5 hb5 hg5
        have HO5 := Lib.hid O5
        have HB5 := Lib.hid (HB.out.trans (((Below.refl _ WR).alloc hsw _).trans hb5))
        clear O5 hb5 hg5 O4 hy O1 a1
        go_wp2_with fail
        go_roundw
        case rel => exact ⟨j + 1, by omega, by omega, by go_num, (by rw [HT.out]; exact HO5), HB5⟩
        all_goals first | done | (simp [intOf]; done) | (simp [intOf]; omega)
    · have hji : ¬ (j : Int) < (B : Int) := by omega
      have hjj : j = B := by omega
      have HO8 := Lib.hid (show RowOf 1 encI (betL g rs A B) _ WR by rw [HR2.out, ← hjj]; exact hO.out.row lenI)
      have HB8 := Lib.hid (HBEL.out.trans (hB.out.mono HBEL.out.size))
      clear hO hB hjj
      go_wp2_with fail
      go_ret2
      exact ⟨_, by rw [HR.out]; rfl, HO8.out, HB8.out⟩
set_option maxRecDepth 100000 in
set_option maxHeartbeats 4000000 in
theorem coneT_any (g : Gr) (v : Value) (rs : List Int) (vr : Value) (w : World) (sg : Small g) (hrn : rs.length ≤ 4000000) (hG : GO g v w) (hr : RowOf 1 encI rs vr w) : Calls Try.prog 56 #[v, vr] w fun e w' => ∃ vl, e = .returned (.tuple #[vl, .int .i64 (coneE g rs)]) ∧ RowOf 1 encI (betL g rs 0 (n0L g + g.ands.length)) vl w' ∧ Below w.heap.size w w' := by
  have hG0 := hG
  obtain ⟨a, b, c, d0, e, a', b', c', d', e', rfl, hC, hA⟩ := hG.all
  clear hG
  obtain ⟨ad, cpr, rfl, hcp, R⟩ := hr.open'
  have hN0 : ((((n0L g + g.ands.length) : Nat)) : Int) = 1 + (g.ins.length : Int) + (g.regs.length : Int) + (g.ands.length : Int) := by unfold n0L; omega
  go_enter Try.func56, Try.ntmps56
  go_upto_region 1 with fail
  have bel := (Below.refl w.heap.size w).alloc (Nat.le_refl _) (.cells #[.slice a g.ins.length a', .slice b g.outN.length b', .slice c g.regs.length c', .slice d0 g.ands.length d', .slice e g.outs.length e'] 28)
  have X := GX.new w (.slice a g.ins.length a') (.slice b g.outN.length b') (.slice c g.regs.length c') (.slice d0 g.ands.length d') (.slice e g.outs.length e') 28
  generalize w.alloc (.cells #[.slice a g.ins.length a', .slice b g.outN.length b', .slice c g.regs.length c', .slice d0 g.ands.length d', .slice e g.outs.length e'] 28) = W0 at bel X ⊢
  generalize hk : w.heap.size = k at X ⊢
  have HK := Lib.hid hk
  clear hk
  obtain ⟨x0, x1, x2, x3, x4⟩ := id X
  have H1 := Lib.hid (fun W (hb : Below w.heap.size w W) => nodes_ok g _ W sg (hG0.below hb))
  rw [← hN0] at H1
  have H2 := Lib.hid (fun W (hb : Below w.heap.size w W) => between_any g _ rs _ 0 ((n0L g + g.ands.length)) (by unfold n0L; omega) (by omega) sg (by omega) W (hG0.below hb) (hr.below hb))
  clear hN0 hr
  have HB := Lib.hid (fun d os => bel.trans ((below_regrown W0 d os).mono bel.size))
  have g0 := cell_regrown x0
  have g1 := cell_regrown x1
  have g2 := cell_regrown x2
  have g3 := cell_regrown x3
  have g4 := cell_regrown x4
  clear x0 x1 x2 x3 x4
  refine wp_region_rel 9 (by kernel_rfl) (by kernel_rfl) ?_
  simp only [List.take_succ_cons, List.take_zero, List.drop_succ_cons, List.drop_zero]
  (refine rel_fix0 (fun K hK => ?_); go_simp; refine hK _ ?_; clear hK K)
  (refine rel_fix0 (fun K hK => ?_); go_simp; refine hK _ ?_; clear hK K)
  (refine rel_fix0 (fun K hK => ?_); go_simp; refine hK _ ?_; clear hK K)
  (refine rel_fix0 (fun K hK => ?_); go_simp; apply Exists.intro; refine ⟨fun _ _ => ?_, hK _ ?_⟩; (with_reducible exact ret_fix (H1.out _ (HB.out _ _))); clear hK K)
  refine rel_fact [] (PT (betL g rs 0 (n0L g + g.ands.length)) (coneE g rs)) 10 rfl (by simp [Act.put]) (pt_sta _ _) (by rfl) (by kernel_rfl) (by kernel_rfl) ?_ ?_
  · intro d os
    simp only [relAll]
    go_simp
    exact ret_fact ((H2.out _ (HB.out _ _)).mono fun ee w' ⟨vl, q1, q2, q3⟩ => ⟨_, q1, ⟨vl, rfl, q2⟩, q3⟩)
  refine rel_fact [(10, _)] (RowOf 1 encI (betL g rs 0 (n0L g + g.ands.length))) 11 rfl (by simp [Act.put]) (row_sta _ _ _) (by rfl) (by kernel_rfl) (by kernel_rfl) ?_ ?_
  · intro d os
    simp only [relAll]
    rintro u1 ⟨ga, rfl, q1⟩
    go_simp
    all_goals exact ⟨q1, Below.refl _ _⟩
  refine rel_use [(10, _)] (.int .i64 (coneE g rs)) (by rfl) (by kernel_rfl) (by kernel_rfl) ?_ ?_
  · intro d os
    simp only [relAll]
    rintro u1 ⟨ga, rfl, q1⟩
    go_simp
  refine rel_fact [(11, _)] (RowOf 1 encI (betL g rs 0 (n0L g + g.ands.length))) 4 rfl (by simp [Act.put]) (row_sta _ _ _) (by rfl) (by kernel_rfl) (by kernel_rfl) ?_ ?_
  · intro d os
    simp only [relAll]
    rintro u1 r1
    go_simp
    all_goals exact ⟨r1, Below.refl _ _⟩
  (refine rel_fix (by kernel_rfl) (by kernel_rfl) (fun K hK => ?_); go_simp; refine hK _ ?_; clear hK K)
  refine rel_nil ?_
  intro d os
  simp only [relAll]
  rintro v4 r4 v11 - v10 -
  replace bel := HB.out d os
  have R4 := r4
  clear g0 g1 g2 g3 g4 HB H1 H2 r4
  generalize grow (redrawn W0 d) os = WZ at bel R4 ⊢
  go_wp2_with fail
  go_ret2
  exact ⟨_, rfl, R4, bel⟩
set_option maxRecDepth 100000 in
set_option maxHeartbeats 4000000 in
theorem supT_any (g : Gr) (v : Value) (rs : List Int) (vr : Value) (w : World) (sg : Small g) (hrn : rs.length ≤ 4000000) (hG : GO g v w) (hr : RowOf 1 encI rs vr w) : Calls Try.prog 57 #[v, vr] w fun e w' => ∃ vl, e = .returned (.tuple #[vl, .int .i64 (coneE g rs)]) ∧ RowOf 1 encI (betL g rs 1 (n0L g)) vl w' ∧ Below w.heap.size w w' := by
  have hG0 := hG
  obtain ⟨a, b, c, d0, e, a', b', c', d', e', rfl, hC, hA⟩ := hG.all
  clear hG
  obtain ⟨ad, cpr, rfl, hcp, R⟩ := hr.open'
  have hN0 : ((((n0L g) : Nat)) : Int) = 1 + (g.ins.length : Int) + (g.regs.length : Int) := by unfold n0L; omega
  go_enter Try.func57, Try.ntmps57
  go_upto_region 1 with fail
  have bel := (Below.refl w.heap.size w).alloc (Nat.le_refl _) (.cells #[.slice a g.ins.length a', .slice b g.outN.length b', .slice c g.regs.length c', .slice d0 g.ands.length d', .slice e g.outs.length e'] 28)
  have X := GX.new w (.slice a g.ins.length a') (.slice b g.outN.length b') (.slice c g.regs.length c') (.slice d0 g.ands.length d') (.slice e g.outs.length e') 28
  generalize w.alloc (.cells #[.slice a g.ins.length a', .slice b g.outN.length b', .slice c g.regs.length c', .slice d0 g.ands.length d', .slice e g.outs.length e'] 28) = W0 at bel X ⊢
  generalize hk : w.heap.size = k at X ⊢
  have HK := Lib.hid hk
  clear hk
  obtain ⟨x0, x1, x2, x3, x4⟩ := id X
  have H1 := Lib.hid (fun W (hb : Below w.heap.size w W) => first_ok g _ W sg (hG0.below hb))
  rw [← hN0] at H1
  have H2 := Lib.hid (fun W (hb : Below w.heap.size w W) => between_any g _ rs _ 1 ((n0L g)) (by unfold n0L; omega) (by omega) sg (by omega) W (hG0.below hb) (hr.below hb))
  clear hN0 hr
  have HB := Lib.hid (fun d os => bel.trans ((below_regrown W0 d os).mono bel.size))
  have g0 := cell_regrown x0
  have g1 := cell_regrown x1
  have g2 := cell_regrown x2
  have g3 := cell_regrown x3
  have g4 := cell_regrown x4
  clear x0 x1 x2 x3 x4
  refine wp_region_rel 9 (by kernel_rfl) (by kernel_rfl) ?_
  simp only [List.take_succ_cons, List.take_zero, List.drop_succ_cons, List.drop_zero]
  (refine rel_fix0 (fun K hK => ?_); go_simp; refine hK _ ?_; clear hK K)
  (refine rel_fix0 (fun K hK => ?_); go_simp; refine hK _ ?_; clear hK K)
  (refine rel_fix0 (fun K hK => ?_); go_simp; refine hK _ ?_; clear hK K)
  (refine rel_fix0 (fun K hK => ?_); go_simp; apply Exists.intro; refine ⟨fun _ _ => ?_, hK _ ?_⟩; (with_reducible exact ret_fix (H1.out _ (HB.out _ _))); clear hK K)
  refine rel_fact [] (PT (betL g rs 1 (n0L g)) (coneE g rs)) 10 rfl (by simp [Act.put]) (pt_sta _ _) (by rfl) (by kernel_rfl) (by kernel_rfl) ?_ ?_
  · intro d os
    simp only [relAll]
    go_simp
    exact ret_fact ((H2.out _ (HB.out _ _)).mono fun ee w' ⟨vl, q1, q2, q3⟩ => ⟨_, q1, ⟨vl, rfl, q2⟩, q3⟩)
  refine rel_fact [(10, _)] (RowOf 1 encI (betL g rs 1 (n0L g))) 11 rfl (by simp [Act.put]) (row_sta _ _ _) (by rfl) (by kernel_rfl) (by kernel_rfl) ?_ ?_
  · intro d os
    simp only [relAll]
    rintro u1 ⟨ga, rfl, q1⟩
    go_simp
    all_goals exact ⟨q1, Below.refl _ _⟩
  refine rel_use [(10, _)] (.int .i64 (coneE g rs)) (by rfl) (by kernel_rfl) (by kernel_rfl) ?_ ?_
  · intro d os
    simp only [relAll]
    rintro u1 ⟨ga, rfl, q1⟩
    go_simp
  refine rel_fact [(11, _)] (RowOf 1 encI (betL g rs 1 (n0L g))) 4 rfl (by simp [Act.put]) (row_sta _ _ _) (by rfl) (by kernel_rfl) (by kernel_rfl) ?_ ?_
  · intro d os
    simp only [relAll]
    rintro u1 r1
    go_simp
    all_goals exact ⟨r1, Below.refl _ _⟩
  (refine rel_fix (by kernel_rfl) (by kernel_rfl) (fun K hK => ?_); go_simp; refine hK _ ?_; clear hK K)
  refine rel_nil ?_
  intro d os
  simp only [relAll]
  rintro v4 r4 v11 - v10 -
  replace bel := HB.out d os
  have R4 := r4
  clear g0 g1 g2 g3 g4 HB H1 H2 r4
  generalize grow (redrawn W0 d) os = WZ at bel R4 ⊢
  go_wp2_with fail
  go_ret2
  exact ⟨_, rfl, R4, bel⟩
theorem cone_holds : ConeC := fun g v rs vr w sg hrn hG hr => by
  have := coneT_any g v rs vr w sg hrn hG hr
  rwa [show betL g rs 0 (n0L g + g.ands.length) = coneL g rs from bet_cone g rs] at this
theorem sup_holds : SupC := fun g v rs vr w sg hrn hG hr => by
  have := supT_any g v rs vr w sg hrn hG hr
  rwa [bet_sup] at this
end Go.Proofs.Ytbphhcjepeamcaa
