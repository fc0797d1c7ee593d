/- The law on Eval, Init and Run: its walk. Asked: the fact. -/
import Derived.Test.YtimojbjamfckmaaNlRu
import Derived.Test.YtimojbjamfckmaaNlSr
namespace Go.Proofs.Ytimojbjamfckmaa
open Go Go.RowKit Go.Sort
set_option linter.unusedVariables false
theorem tfR0 {n : Nat} : ∀ {l : List (List Bool)}, tfR n l = 0 → ∀ r ∈ l, r.length = n
  | [], _, r, hr => by cases hr
  | x :: l, h, r, hr => by
    unfold tfR at h
    split at h
    · rename_i hx
      rcases List.mem_cons.1 hr with rfl | hr
      · exact hx
      · exact tfR0 h r hr
    · omega
theorem tfL0 {n : Nat} {l : List (List Bool)} (h : tfL l n = 0) : l.length ≤ 64 ∧ ∀ r ∈ l, r.length = n := by
  unfold tfL at h
  split at h
  · omega
  · exact ⟨by omega, tfR0 h⟩
theorem play_rows (n : Nl) : ∀ (l : List (List Bool)) (st : List Bool), ∀ r ∈ playN n st l, r.length = n.outs.length
  | [], _, r, hr => by cases hr
  | x :: l, st, r, hr => by
    rcases List.mem_cons.1 hr with rfl | hr
    · unfold showN outN_ pickL; simp
    · exact play_rows n l _ r hr
theorem TR.nilv {v : Value} {w : World} (h : TR [] v w) : ∃ ad cap, v = .slice ad 0 cap := by
  obtain ⟨ad, cap, vs, h1, _⟩ := h
  exact ⟨ad, cap, h1⟩
set_option maxRecDepth 100000 in
set_option maxHeartbeats 16000000 in
theorem nruns_law (hF : NfC) (n : Nl) (v : Value) (ins st : List Bool) (vi vs : Value) (l : List (List Bool)) (vt : Value) (sg : SmN n) (hin : ins.length ≤ 4000000000) (hst : st.length ≤ 4000000000) (hn : l.length ≤ 4000000000) (hnn : ∀ r ∈ l, r.length ≤ 4000000000) (w : World) (hG : NO n v w) (h1 : RowC (fun b => Value.bool b) ins vi w) (h2 : RowC (fun b => Value.bool b) st vs w) (hT : TR l vt w) : Calls Try.prog 7 #[v, vi, vs, vt] w fun e w' => e = .returned (.bool true) ∧ Below w.heap.size w w' := by
  have hG0 := hG
  obtain ⟨a, b, c, d0, e, a', b', c', d', e', rfl, hC, hA⟩ := hG.all
  clear hG
  have HFF := Lib.hid (fun W => hF W)
  clear hF
  have s3 := sg.flops
  have s5 := sg.outs
  have HI := Lib.hid (fun W (hb : Below w.heap.size w W) => h1.below hb)
  have HS := Lib.hid (fun W (hb : Below w.heap.size w W) => h2.below hb)
  obtain ⟨ai, ci, rfl, _, _, _⟩ := h1
  obtain ⟨az, cz, rfl, _, _, _⟩ := h2
  go_enter Try.func7, Try.ntmps7
  go_upto_region 1 with fail
  have bel := (Below.refl w.heap.size w).alloc (Nat.le_refl _) (.cells #[.slice a n.ins.length a', .slice b n.outN.length b', .slice c n.flops.length c', .slice d0 n.gates.length d', .slice e n.outs.length e'] 27)
  have X := GX.new w (.slice a n.ins.length a') (.slice b n.outN.length b') (.slice c n.flops.length c') (.slice d0 n.gates.length d') (.slice e n.outs.length e') 27
  generalize w.alloc (.cells #[.slice a n.ins.length a', .slice b n.outN.length b', .slice c n.flops.length c', .slice d0 n.gates.length d', .slice e n.outs.length e'] 27) = W0 at bel X ⊢
  generalize hk : w.heap.size = k at X ⊢
  have HK := Lib.hid hk
  clear hk
  obtain ⟨x0, x1, x2, x3, x4⟩ := id X
  replace hT := hT.below (bel.mono (by have := HK.out; omega))
  have H1 := Lib.hid (evalN_any n _ ins st _ _ sg hin hst W0 (hG0.below bel) (HI.out _ bel) (HS.out _ bel))
  go_upto_region 2 with (first | (go_at_call 35; refine H1.out.mono ?_; rintro ee W1 ⟨vo, vx, rfl, E1, E2, hb1⟩; replace bel := bel.trans (hb1.mono bel.size); replace X := X.below hb1; replace hT := hT.below hb1; clear hb1 H1 x0 x1 x2 x3 x4; obtain ⟨x0, x1, x2, x3, x4⟩ := id X))
  have H1 := Lib.hid (runN_any n _ l vt sg hn W1 (hG0.below bel) hT)
  go_upto_region 3 with (first | (go_at_call 36; refine H1.out.mono ?_; rintro ee W2 ⟨vl, rfl, R1, hb1⟩; replace bel := bel.trans (hb1.mono bel.size); replace X := X.below hb1; replace hT := hT.below hb1; replace E1 := E1.below hb1; replace E2 := E2.below hb1; clear hb1 H1 x0 x1 x2 x3 x4; obtain ⟨x0, x1, x2, x3, x4⟩ := id X))
  have hbl : (beginN n).length = n.flops.length := by simp [beginN]
  have HIN := Lib.hid (fun W (hb : Below w.heap.size w W) => (initN_any n _ W sg (hG0.below hb)).mono fun e w' ⟨q, e1, a1, _, b1⟩ => show ∃ u, e = Ending.returned u ∧ RowOf 1 encB (beginN n) u w' ∧ Below W.heap.size W w' from ⟨_, e1, (a1.rowc _ hbl).row, b1⟩)
  have HBG := Lib.hid (fun W (hb : Below w.heap.size w W) => (netBegin_any n _ sg W (hG0.below hb)).mono fun e w' ⟨u, e1, o1, b1⟩ => show ∃ u, e = Ending.returned u ∧ RowOf 1 encB (beginN n) u w' ∧ Below W.heap.size W w' from ⟨u, e1, o1.row, b1⟩)
  have HQI := Lib.hid (fun v1 v2 W q1 q2 => by have := equalB_any (beginN n) (beginN n) v1 v2 (by omega) (by omega) W q1 q2; rwa [decide_eq_true (rfl : beginN n = beginN n)] at this)
  have HB := Lib.hid (fun d os => bel.trans ((below_regrown W2 d os).mono bel.size))
  have HBS := Lib.hid (fun d os => below_regrown W2 d os)
  have g0 := cell_regrown x0
  have g1 := cell_regrown x1
  have g2 := cell_regrown x2
  have g3 := cell_regrown x3
  have g4 := cell_regrown x4
  clear x0 x1 x2 x3 x4 hbl
  refine wp_region_rel 10 (by kernel_rfl) (by kernel_rfl) ?_
  simp only [List.take_succ_cons, List.take_zero, List.drop_succ_cons, List.drop_zero]
  (refine rel_fix0 (fun K hK => ?_); go_simp; apply Exists.intro; refine ⟨fun _ _ => ?_, hK _ ?_⟩; (with_reducible exact ret_fix (HFF.out _)); clear hK K)
  (refine rel_fix0 (fun K hK => ?_); go_simp; refine hK _ ?_; clear hK K)
  (refine rel_fix0 (fun K hK => ?_); go_simp; refine hK _ ?_; clear hK K)
  (refine rel_fix0 (fun K hK => ?_); go_simp; refine hK _ ?_; clear hK K)
  refine rel_fact [] (RowOf 1 encB (beginN n)) 36 rfl (by simp [Act.put]) (row_sta _ _ _) (by rfl) (by kernel_rfl) (by kernel_rfl) ?_ ?_
  · intro d os
    simp only [relAll]
    go_simp
    exact ret_fact (HIN.out _ (HB.out _ _))
  (refine rel_fix (by kernel_rfl) (by kernel_rfl) (fun K hK => ?_); go_simp; refine hK _ ?_; clear hK K)
  refine rel_fact [] (RowOf 1 encB (beginN n)) 38 rfl (by simp [Act.put]) (row_sta _ _ _) (by rfl) (by kernel_rfl) (by kernel_rfl) ?_ ?_
  · intro d os
    simp only [relAll]
    go_simp
    exact ret_fact (HBG.out _ (HB.out _ _))
  refine rel_use [(38, _), (36, _)] (.bool true) (by rfl) (by kernel_rfl) (by kernel_rfl) ?_ ?_
  · intro d os
    simp only [relAll]
    rintro u2 r2 u1 r1
    go_simp
    exact ret_fix (HQI.out _ _ _ r1 r2)
  (refine rel_fix (by kernel_rfl) (by kernel_rfl) (fun K hK => ?_); go_simp; refine hK _ ?_; clear hK K)
  (refine rel_fix (by kernel_rfl) (by kernel_rfl) (fun K hK => ?_); go_simp; refine hK _ ?_; clear hK K)
  refine rel_nil ?_
  intro d os
  simp only [relAll]
  rintro v38 - v36 -
  replace bel := HB.out d os
  have hb1 := HBS.out d os
  replace X := X.below hb1
  replace R1 := R1.below hb1
  replace hT := hT.below hb1
  replace E1 := E1.below hb1
  replace E2 := E2.below hb1
  clear g0 g1 g2 g3 g4 HB HBS HIN HBG HQI hb1
  generalize grow (redrawn _ d) os = W3 at bel X R1 hT E1 E2 ⊢
  obtain ⟨x0, x1, x2, x3, x4⟩ := id X
  have H1 := Lib.hid (netWidths_any n _ ins.length st.length sg W3 (hG0.below bel))
  go_upto_region 6 with (first | (go_at_call 31; refine H1.out.mono ?_; rintro ee W4 ⟨rfl, hb1⟩; replace bel := bel.trans (hb1.mono bel.size); replace X := X.below hb1; replace R1 := R1.below hb1; replace hT := hT.below hb1; replace E1 := E1.below hb1; replace E2 := E2.below hb1; clear hb1 H1 x0 x1 x2 x3 x4; obtain ⟨x0, x1, x2, x3, x4⟩ := id X))
  by_cases hw : widN n ins.length st.length = 0
  rotate_left
  · have e1 : evO n ins st = [] := if_neg hw
    have e2 : evN n ins st = [] := if_neg hw
    rw [e1] at E1
    rw [e2] at E2
    obtain ⟨ad, cp, rfl, hcp, _⟩ := E1.open'
    obtain ⟨ad2, cp2, rfl, hcp2, _⟩ := E2.open'
    clear e1 e2 E1 E2
    generalize widN n ins.length st.length = wd at hw ⊢
    obtain ⟨hfb, hfc⟩ := beqn hw
    clear hw
    go_upto_region 12 with fail
    clear hfb hfc
    have H1 := Lib.hid (faultN_any n _ sg W4 (hG0.below bel))
    go_upto_region 13 with (first | (go_at_call 19; refine H1.out.mono ?_; rintro ee W5 ⟨rfl, hb1⟩; replace bel := bel.trans (hb1.mono bel.size); replace X := X.below hb1; replace R1 := R1.below hb1; replace hT := hT.below hb1; clear hb1 H1 x0 x1 x2 x3 x4; obtain ⟨x0, x1, x2, x3, x4⟩ := id X))
    by_cases hf : faultN n = 0
    rotate_left
    · have he : runNE n l = faultN n := if_neg hf
      have hr : runNR n l = [] := if_neg (fun h => hf (he ▸ h))
      rw [hr] at R1
      rw [he]
      obtain ⟨ad, cp, rfl⟩ := R1.nilv
      clear hr he R1 hG0 hC hA hT
      generalize faultN n = f at hf ⊢
      obtain ⟨hfb, hfc⟩ := beqn hf
      go_wp2_with fail
      go_ret
      exact ⟨rfl, bel⟩
    have he : runNE n l = tfL l n.ins.length := if_pos hf
    have vg := vn_of hf
    rw [he, hf]
    have H1 := Lib.hid (traceFault_any l vt n.ins.length hn W5 hT)
    go_upto_region 15 with (first | (go_at_call 39; refine H1.out.mono ?_; rintro ee W6 ⟨rfl, hb1⟩; replace bel := bel.trans (hb1.mono bel.size); replace X := X.below hb1; replace R1 := R1.below hb1; replace hT := hT.below hb1; clear hb1 H1 x0 x1 x2 x3 x4; obtain ⟨x0, x1, x2, x3, x4⟩ := id X))
    by_cases ht : tfL l n.ins.length = 0
    rotate_left
    · have hr : runNR n l = [] := if_neg (fun h => ht (he ▸ h))
      rw [hr] at R1
      obtain ⟨ad, cp, rfl⟩ := R1.nilv
      clear hr he R1 hG0 hC hA hT hf
      generalize tfL l n.ins.length = f at ht ⊢
      obtain ⟨hfb, hfc⟩ := beqn ht
      go_wp2_with fail
      go_ret
      exact ⟨rfl, bel⟩
    have hr : runNR n l = playN n (beginN n) l := if_pos (he.trans ht)
    obtain ⟨h1, h2⟩ := tfL0 ht
    rw [hr] at R1
    rw [ht]
    have n4 : n.outs.length ≤ 128 := by have := vg.same; have := vg.outN; omega
    have HP := Lib.hid (fun W hb hT => netPlayed_any n _ vt l vg sg h1 h2 W (hG0.below hb) hT)
    have HQ := Lib.hid (fun v1 v2 W q1 q2 => by have := sameRows_any (playN n (beginN n) l) (playN n (beginN n) l) v1 v2 (by rw [playN_len]; omega) (by rw [playN_len]; omega) (fun r hr => by rw [play_rows n l _ r hr]; omega) (fun r hr => by rw [play_rows n l _ r hr]; omega) W q1 q2; rwa [decide_eq_true (rfl : playN n (beginN n) l = playN n (beginN n) l)] at this)
    clear hr he hf ht h1 h2 hnn
    generalize playN n (beginN n) l = L at R1 HP HQ
    clear hC hA vg
    have H1 := Lib.hid (HP.out W6 bel hT)
    go_wp2_with (first | (go_at_call 41; refine H1.out.mono ?_; rintro ee W7 ⟨vh, rfl, R2, hb1⟩; replace bel := bel.trans (hb1.mono bel.size); replace X := X.below hb1; replace R1 := R1.below hb1; clear hb1 H1 x0 x1 x2 x3 x4; obtain ⟨x0, x1, x2, x3, x4⟩ := id X))
    have H1 := Lib.hid (HQ.out _ _ W7 R1 R2)
    go_wp2_with (first | (go_at_call 40; refine H1.out.mono ?_; rintro ee W8 ⟨rfl, hb1⟩; replace bel := bel.trans (hb1.mono bel.size); replace X := X.below hb1; clear hb1 H1 x0 x1 x2 x3 x4; obtain ⟨x0, x1, x2, x3, x4⟩ := id X))
    go_ret
    exact ⟨rfl, bel⟩
  · obtain ⟨hf, p1, p2⟩ := widN_zero hw
    have vn := vn_of hf
    have e1 : evO n ins st = showN n ins st := if_pos hw
    have e2 : evN n ins st = stepN n ins st := if_pos hw
    rw [e1] at E1
    rw [e2] at E2
    rw [hw]
    have n4 : n.outs.length ≤ 128 := by have := vn.same; have := vn.outN; omega
    have H1 := Lib.hid (netCycle_any n _ ins st _ _ vn p1 p2 W4 (hG0.below bel) (HI.out _ bel) (HS.out _ bel))
    have HQ1 := Lib.hid (fun v1 v2 W q1 q2 => by have := equalB_any (showN n ins st) (showN n ins st) v1 v2 (by unfold showN outN_ pickL; rw [List.length_map]; omega) (by unfold showN outN_ pickL; rw [List.length_map]; omega) W q1 q2; rwa [decide_eq_true (rfl : showN n ins st = showN n ins st)] at this)
    have HQ2 := Lib.hid (fun v1 v2 W q1 q2 => by have := equalB_any (stepN n ins st) (stepN n ins st) v1 v2 (by unfold stepN nextB; rw [List.length_map, List.length_range]; omega) (by unfold stepN nextB; rw [List.length_map, List.length_range]; omega) W q1 q2; rwa [decide_eq_true (rfl : stepN n ins st = stepN n ins st)] at this)
    clear e1 e2 p1 p2 hf hw vn n4
    generalize showN n ins st = SH at E1 H1 HQ1
    generalize stepN n ins st = SN at E2 H1 HQ2
    go_upto_region 10 with (first | (go_at_call 32; refine H1.out.mono ?_; rintro ee W4b ⟨vp, vq, rfl, P1, P2, hb1⟩; replace bel := bel.trans (hb1.mono bel.size); replace X := X.below hb1; replace R1 := R1.below hb1; replace hT := hT.below hb1; replace E1 := E1.below hb1; replace E2 := E2.below hb1; clear hb1 H1 x0 x1 x2 x3 x4; obtain ⟨x0, x1, x2, x3, x4⟩ := id X))
    have H1 := Lib.hid (HQ1.out _ _ W4b E1 P1.row)
    have HQ3 := Lib.hid (fun W (hb : Below W4b.heap.size W4b W) => HQ2.out _ _ W (E2.below hb) (P2.below hb).row)
    clear HQ1 HQ2 E1 P1
    go_upto_region 12 with (first | (go_at_call 33; first | (with_reducible refine H1.out.mono ?_; rintro ee W4c ⟨rfl, hb1⟩; have b4 := hb1; replace bel := bel.trans (hb1.mono bel.size); replace X := X.below hb1; replace R1 := R1.below hb1; replace hT := hT.below hb1; clear hb1 H1 x0 x1 x2 x3 x4; obtain ⟨x0, x1, x2, x3, x4⟩ := id X) | (with_reducible refine (HQ3.out _ b4).mono ?_; rintro ee WQ ⟨rfl, hb1⟩; replace bel := bel.trans (hb1.mono bel.size); replace X := X.below hb1; replace R1 := R1.below hb1; replace hT := hT.below hb1; clear hb1 HQ3 x0 x1 x2 x3 x4; obtain ⟨x0, x1, x2, x3, x4⟩ := id X)))
    clear E2 P2 b4
    have H1 := Lib.hid (faultN_any n _ sg WQ (hG0.below bel))
    go_upto_region 13 with (first | (go_at_call 19; refine H1.out.mono ?_; rintro ee W5 ⟨rfl, hb1⟩; replace bel := bel.trans (hb1.mono bel.size); replace X := X.below hb1; replace R1 := R1.below hb1; replace hT := hT.below hb1; clear hb1 H1 x0 x1 x2 x3 x4; obtain ⟨x0, x1, x2, x3, x4⟩ := id X))
    by_cases hf : faultN n = 0
    rotate_left
    · have he : runNE n l = faultN n := if_neg hf
      have hr : runNR n l = [] := if_neg (fun h => hf (he ▸ h))
      rw [hr] at R1
      rw [he]
      obtain ⟨ad, cp, rfl⟩ := R1.nilv
      clear hr he R1 hG0 hC hA hT
      generalize faultN n = f at hf ⊢
      obtain ⟨hfb, hfc⟩ := beqn hf
      go_wp2_with fail
      go_ret
      exact ⟨rfl, bel⟩
    have he : runNE n l = tfL l n.ins.length := if_pos hf
    have vg := vn_of hf
    rw [he, hf]
    have H1 := Lib.hid (traceFault_any l vt n.ins.length hn W5 hT)
    go_upto_region 15 with (first | (go_at_call 39; refine H1.out.mono ?_; rintro ee W6 ⟨rfl, hb1⟩; replace bel := bel.trans (hb1.mono bel.size); replace X := X.below hb1; replace R1 := R1.below hb1; replace hT := hT.below hb1; clear hb1 H1 x0 x1 x2 x3 x4; obtain ⟨x0, x1, x2, x3, x4⟩ := id X))
    by_cases ht : tfL l n.ins.length = 0
    rotate_left
    · have hr : runNR n l = [] := if_neg (fun h => ht (he ▸ h))
      rw [hr] at R1
      obtain ⟨ad, cp, rfl⟩ := R1.nilv
      clear hr he R1 hG0 hC hA hT hf
      generalize tfL l n.ins.length = f at ht ⊢
      obtain ⟨hfb, hfc⟩ := beqn ht
      go_wp2_with fail
      go_ret
      exact ⟨rfl, bel⟩
    have hr : runNR n l = playN n (beginN n) l := if_pos (he.trans ht)
    obtain ⟨h1, h2⟩ := tfL0 ht
    rw [hr] at R1
    rw [ht]
    have n4 : n.outs.length ≤ 128 := by have := vg.same; have := vg.outN; omega
    have HP := Lib.hid (fun W hb hT => netPlayed_any n _ vt l vg sg h1 h2 W (hG0.below hb) hT)
    have HQ := Lib.hid (fun v1 v2 W q1 q2 => by have := sameRows_any (playN n (beginN n) l) (playN n (beginN n) l) v1 v2 (by rw [playN_len]; omega) (by rw [playN_len]; omega) (fun r hr => by rw [play_rows n l _ r hr]; omega) (fun r hr => by rw [play_rows n l _ r hr]; omega) W q1 q2; rwa [decide_eq_true (rfl : playN n (beginN n) l = playN n (beginN n) l)] at this)
    clear hr he hf ht h1 h2 hnn
    generalize playN n (beginN n) l = L at R1 HP HQ
    clear hC hA vg
    have H1 := Lib.hid (HP.out W6 bel hT)
    go_wp2_with (first | (go_at_call 41; refine H1.out.mono ?_; rintro ee W7 ⟨vh, rfl, R2, hb1⟩; replace bel := bel.trans (hb1.mono bel.size); replace X := X.below hb1; replace R1 := R1.below hb1; clear hb1 H1 x0 x1 x2 x3 x4; obtain ⟨x0, x1, x2, x3, x4⟩ := id X))
    have H1 := Lib.hid (HQ.out _ _ W7 R1 R2)
    go_wp2_with (first | (go_at_call 40; refine H1.out.mono ?_; rintro ee W8 ⟨rfl, hb1⟩; replace bel := bel.trans (hb1.mono bel.size); replace X := X.below hb1; clear hb1 H1 x0 x1 x2 x3 x4; obtain ⟨x0, x1, x2, x3, x4⟩ := id X))
    go_ret
    exact ⟨rfl, bel⟩
end Go.Proofs.Ytimojbjamfckmaa
