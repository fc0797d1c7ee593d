/- The law on values: its walk. Asked: the fact. -/
import Derived.Test.YtimojbjamfckmaaNlWv
import Derived.Test.YtimojbjamfckmaaNlU
import Derived.Test.YtimojbjamfckmaaGrEq
namespace Go.Proofs.Ytimojbjamfckmaa
open Go Go.RowKit Go.Sort
set_option linter.unusedVariables false
theorem columnK_any (l : List (BitVec 64)) (v : Value) (k : Nat) (hk : k < 64) (hn : l.length ≤ 4000000000) (w : World) (h : RowOf 1 encW l v w) : Calls Try.prog 28 #[v, .int .i64 (k : Int)] w fun e w' => ∃ vo, e = .returned vo ∧ Own w.heap.size 4 (fun b => Value.bool b) w' vo (l.map (bitK k)) ∧ Below w.heap.size w w' := columnW_any l v k hk hn w h
theorem columnR_any (l : List (BitVec 64)) (v : Value) (k : Nat) (hk : k < 64) (hn : l.length ≤ 4000000000) (w : World) (h : RowOf 1 encW l v w) : Calls Try.prog 28 #[v, .int .i64 (k : Int)] w fun e w' => ∃ vo, e = .returned vo ∧ RowOf 1 encB (l.map (bitK k)) vo w' ∧ Below w.heap.size w w' := (columnK_any l v k hk hn w h).mono fun e w' ⟨u, h1, h2, h3⟩ => ⟨u, h1, h2.row, h3⟩
set_option maxRecDepth 100000 in
set_option maxHeartbeats 16000000 in
theorem nvals_law (hF : NfC) (n : Nl) (v : Value) (ins st : List (BitVec 64)) (vi vs : Value) (m : Nat) (hm : m < 256) (sg : SmN n) (hin : ins.length ≤ 4000000000) (hst : st.length ≤ 4000000000) (w : World) (hG : NO n v w) (h1 : RowC (fun b => Value.int .u64 (U b)) ins vi w) (h2 : RowC (fun b => Value.int .u64 (U b)) st vs w) : Calls Try.prog 6 #[v, vi, vs, .int .u8 (m : Int)] w fun e w' => e = .returned (.bool true) ∧ Below w.heap.size w w' := by
  have hG0 := hG
  obtain ⟨a, b, c, d0, e, a', b', c', d', e', rfl, hC, hA⟩ := hG.all
  clear hG
  have HFF := Lib.hid (fun W => hF W)
  clear hF
  have HI := Lib.hid (fun W (hb : Below w.heap.size w W) => h1.below hb)
  have HS := Lib.hid (fun W (hb : Below w.heap.size w W) => h2.below hb)
  obtain ⟨ai, ci, rfl, _, _, _⟩ := h1
  obtain ⟨az, cz, rfl, _, _, _⟩ := h2
  go_enter Try.func6, Try.ntmps6
  go_upto_region 1 with fail
  have bel := (Below.refl w.heap.size w).alloc (Nat.le_refl _) (.cells #[.slice a n.ins.length a', .slice b n.outN.length b', .slice c n.flops.length c', .slice d0 n.gates.length d', .slice e n.outs.length e'] 27)
  have X := GX.new w (.slice a n.ins.length a') (.slice b n.outN.length b') (.slice c n.flops.length c') (.slice d0 n.gates.length d') (.slice e n.outs.length e') 27
  generalize w.alloc (.cells #[.slice a n.ins.length a', .slice b n.outN.length b', .slice c n.flops.length c', .slice d0 n.gates.length d', .slice e n.outs.length e'] 27) = W0 at bel X ⊢
  generalize hk : w.heap.size = k at X ⊢
  have HK := Lib.hid hk
  clear hk
  obtain ⟨x0, x1, x2, x3, x4⟩ := id X
  have H1 := Lib.hid (valuesN_any n _ ins st _ _ sg hin hst W0 (hG0.below bel) (HI.out _ bel) (HS.out _ bel))
  go_upto_region 2 with (first | (go_at_call 29; refine H1.out.mono ?_; rintro ee W1 ⟨vv, rfl, R1, hb1⟩; replace bel := bel.trans (hb1.mono bel.size); replace X := X.below hb1; clear hb1 H1 x0 x1 x2 x3 x4; obtain ⟨x0, x1, x2, x3, x4⟩ := id X))
  have H1 := Lib.hid (wordsN_any n _ ins st _ _ sg hin hst W1 (hG0.below bel) (HI.out _ bel) (HS.out _ bel))
  go_upto_region 3 with (first | (go_at_call 30; refine H1.out.mono ?_; rintro ee W2 ⟨vo, vx, rfl, R2, R3, hb1⟩; replace bel := bel.trans (hb1.mono bel.size); replace X := X.below hb1; replace R1 := R1.below hb1; clear hb1 H1 x0 x1 x2 x3 x4; obtain ⟨x0, x1, x2, x3, x4⟩ := id X))
  have H1 := Lib.hid (netWidths_any n _ ins.length st.length sg W2 (hG0.below bel))
  go_upto_region 4 with (first | (go_at_call 31; refine H1.out.mono ?_; rintro ee W3 ⟨rfl, hb1⟩; replace bel := bel.trans (hb1.mono bel.size); replace X := X.below hb1; replace R1 := R1.below hb1; replace R2 := R2.below hb1; replace R3 := R3.below hb1; clear hb1 H1 x0 x1 x2 x3 x4; obtain ⟨x0, x1, x2, x3, x4⟩ := id X))
  by_cases hw : widN n ins.length st.length = 0
  rotate_left
  · have e1 : valR n ins st = [] := if_neg hw
    have e2 : outR n ins st = [] := if_neg hw
    have e3 : nexR n ins st = [] := if_neg hw
    rw [e1] at R1
    rw [e2] at R2
    rw [e3] at R3
    obtain ⟨ad, cp, rfl, hcp, R1⟩ := R1.open'
    obtain ⟨ad2, cp2, rfl, hcp2, R2⟩ := R2.open'
    obtain ⟨ad3, cp3, rfl, hcp3, R3⟩ := R3.open'
    clear e1 e2 e3 hG0 hC hA R1 R2 R3
    generalize widN n ins.length st.length = f at hw ⊢
    obtain ⟨hfb, hfc⟩ := beqn hw
    go_wp2_with (first | (go_at_call 15; refine (HFF.out _).mono ?_; rintro ee w3 ⟨rfl, hb3⟩))
    go_ret
    exact ⟨rfl, bel.trans (hb3.mono bel.size)⟩
  obtain ⟨hf, e1, e2⟩ := widN_zero hw
  have vn := vn_of hf
  have q1 : valR n ins st = wordsN n ins st := if_pos hw
  have q2 : outR n ins st = pickL (wordsN n ins st) n.outs := if_pos hw
  have q3 : nexR n ins st = nextW n (wordsN n ins st) st n.flops.length := if_pos hw
  rw [q1] at R1
  rw [q2] at R2
  rw [q3] at R3
  rw [hw]
  have n1 := vn.ins
  have n2 := vn.flops
  have n3 := vn.gates
  have n4 : n.outs.length ≤ 128 := by have := vn.same; have := vn.outN; omega
  have HK1 := Lib.hid (fun k hk => words_bit n vn ins st e1 e2 k hk)
  have HK2 := Lib.hid (fun k hk => out_bit n vn ins st e1 e2 k hk)
  have HK3 := Lib.hid (fun k hk => next_bit n vn ins st e1 e2 k hk)
  have hl1 : (wordsN n ins st).length ≤ 4000000000 := by rw [wordsN_len n ins st e1 e2]; unfold netsN fstN; omega
  have hl2 : (pickL (wordsN n ins st) n.outs).length ≤ 4000000000 := by unfold pickL; rw [List.length_map]; omega
  have hl3 : (nextW n (wordsN n ins st) st n.flops.length).length ≤ 4000000000 := by unfold nextW; rw [List.length_map, List.length_range]; omega
  have HE1 := Lib.hid e1
  have HE2 := Lib.hid e2
  clear q1 q2 q3 hw hf e1 e2
  generalize pickL (wordsN n ins st) n.outs = O at R2 HK2 hl2
  generalize nextW n (wordsN n ins st) st n.flops.length = NX at R3 HK3 hl3
  generalize wordsN n ins st = L at R1 HK1 hl1
  have HRL := Lib.hid (fun W (hb : Below W3.heap.size W3 W) => R1.below hb)
  have HRO := Lib.hid (fun W (hb : Below W3.heap.size W3 W) => R2.below hb)
  have HRN := Lib.hid (fun W (hb : Below W3.heap.size W3 W) => R3.below hb)
  have hm2 : 0 ≤ (m : Int) := by omega
  have hm3 : (m : Int) < 256 := by omega
  clear R1 R2 R3 hC hA
  go_upto_region 8 with (first | (go_at_call 15; refine (HFF.out _).mono ?_; rintro ee W4 ⟨rfl, hb1⟩; have B34 := Lib.hid hb1; replace bel := bel.trans (hb1.mono bel.size); replace X := X.below hb1; clear x0 x1 x2 x3 x4; obtain ⟨x0, x1, x2, x3, x4⟩ := id X))
  go_upto_block 0 with fail
  have hmm : (m : Int) % 64 = ((m % 64 : Nat) : Int) := by omega
  have hm64 : m % 64 < 64 := Nat.mod_lt _ (by decide)
  have bK : Below W4.heap.size W4 (W4.alloc (.cells #[.int .i64 0, .int .i64 ((m : Int) % 64), .int .i64 63] 3)) := (Below.refl _ W4).alloc (Nat.le_refl _) _
  have AK : Arr 3 (fun n : Int => Value.int .i64 n) W4.heap.size [0, (m : Int) % 64, 63] (W4.alloc (.cells #[.int .i64 0, .int .i64 ((m : Int) % 64), .int .i64 63] 3)) := ⟨by show (W4.heap.push _)[W4.heap.size]? = _; simp⟩
  replace X := X.below bK
  replace bel := bel.trans (bK.mono bel.size)
  clear x0 x1 x2 x3 x4
  generalize W4.alloc (.cells #[.int .i64 0, .int .i64 ((m : Int) % 64), .int .i64 63] 3) = WA at bK AK X bel ⊢
  generalize W4.heap.size = bs at AK ⊢
  rw [hmm] at AK
  clear hmm
  generalize m % 64 = kk at hm64 AK
  go_wp2_with fail
  go_loopw [85] (fun i wr => ∃ r : Nat, r ≤ 3 ∧ i = .int .i64 (r : Int) ∧ Hid (Below WA.heap.size WA wr)) (fun i _ => 3 - (intOf i).toNat)
  case atStart => exact ⟨0, by omega, rfl, Lib.hid (Below.refl _ _)⟩
  case round =>
    obtain ⟨r, hr, rfl, hB⟩ := hrel
    rename World => WR
    have hr0 : (0 : Int) ≤ (r : Int) := by omega
    by_cases hlt : r < 3
    · have hri : (r : Int) < 3 := by omega
      obtain ⟨kq, hk64, hkc⟩ : ∃ kq : Nat, kq < 64 ∧ WR.cell? ⟨bs, r, none⟩ = some (.int .i64 (kq : Int)) := by
        have hc := (AK.below hB.out).cell (j := r) (by simp; omega)
        match r, hlt, hc with
        | 0, _, hc => exact ⟨0, by omega, hc⟩
        | 1, _, hc => exact ⟨kk, hm64, hc⟩
        | 2, _, hc => exact ⟨63, by omega, hc⟩
      have bR := hB.out
      have belR := bel.trans (bR.mono bel.size)
      have b3R := B34.out.trans ((bK.trans (bR.mono bK.size)).mono B34.out.size)
      have XR := X.below bR
      clear hB
      obtain ⟨x0, x1, x2, x3, x4⟩ := id XR
      have eA : (ins.map (bitK kq)).length = n.ins.length := by rw [List.length_map]; exact HE1.out
      have eB : (st.map (bitK kq)).length = n.flops.length := by rw [List.length_map]; exact HE2.out
      have HC1 := Lib.hid (columnK_any ins (.slice ai ins.length ci) kq hk64 hin WR (HI.out WR belR).row)
      have HC2 := Lib.hid (fun W (hb : Below w.heap.size w W) => columnK_any st (.slice az st.length cz) kq hk64 hst W (HS.out W hb).row)
      have HC3 := Lib.hid (fun W (hb : Below W3.heap.size W3 W) => columnR_any L vv kq hk64 hl1 W (HRL.out W hb))
      have HC4 := Lib.hid (fun W (hb : Below W3.heap.size W3 W) => columnR_any O vo kq hk64 hl2 W (HRO.out W hb))
      have HC5 := Lib.hid (fun W (hb : Below W3.heap.size W3 W) => columnR_any NX vx kq hk64 hl3 W (HRN.out W hb))
      have hm1 : (L.map (bitK kq)).length ≤ 4000000000 := by rw [List.length_map]; exact hl1
      have hm4 : (O.map (bitK kq)).length ≤ 4000000000 := by rw [List.length_map]; exact hl2
      have hm5 : (NX.map (bitK kq)).length ≤ 4000000000 := by rw [List.length_map]; exact hl3
      rw [HK1.out kq hk64] at HC3 hm1
      rw [HK2.out kq hk64] at HC4 hm4
      rw [HK3.out kq hk64] at HC5 hm5
      have HCY := Lib.hid (fun va vb W (hb : Below w.heap.size w W) q1 q2 => netCycle_any n _ _ _ va vb vn eA eB W (hG0.below hb) q1 q2)
      have HNS := Lib.hid (fun va vb W (hb : Below w.heap.size w W) q1 q2 => (netValues_any n _ _ _ va vb vn eA eB W (hG0.below hb) q1 q2).mono fun e w' ⟨u, e1, o1, b1⟩ => show ∃ u, e = Ending.returned u ∧ RowOf 1 encB (valsN n (ins.map (bitK kq)) (st.map (bitK kq))) u w' ∧ Below W.heap.size W w' from ⟨u, e1, o1.row lenB, b1⟩)
      have HQV := Lib.hid (fun v1 v2 W q1 q2 => by have := equalB_any _ _ v1 v2 hm1 hm1 W q1 q2; rwa [decide_eq_true (rfl : valsN n (ins.map (bitK kq)) (st.map (bitK kq)) = _)] at this)
      have HQO := Lib.hid (fun v1 v2 W q1 q2 => by have := equalB_any _ _ v1 v2 hm4 hm4 W q1 q2; rwa [decide_eq_true (rfl : showN n (ins.map (bitK kq)) (st.map (bitK kq)) = _)] at this)
      have HQN := Lib.hid (fun v1 v2 W q1 q2 => by have := equalB_any _ _ v1 v2 hm5 hm5 W q1 q2; rwa [decide_eq_true (rfl : stepN n (ins.map (bitK kq)) (st.map (bitK kq)) = _)] at this)
      clear eA eB hm1 hm4 hm5
      generalize valsN n (ins.map (bitK kq)) (st.map (bitK kq)) = VL at HC3 HNS HQV
      generalize showN n (ins.map (bitK kq)) (st.map (bitK kq)) = SH at HC4 HCY HQO
      generalize stepN n (ins.map (bitK kq)) (st.map (bitK kq)) = SN at HC5 HCY HQN
      go_upto_region 12 with (first | (go_at_call 28; first | (with_reducible refine HC1.out.mono ?_; rintro ee W5 ⟨va, rfl, OA, hb1⟩; have b5 := hb1; replace belR := belR.trans (hb1.mono belR.size); clear hb1 HC1) | (with_reducible refine (HC2.out _ belR).mono ?_; rintro ee W6 ⟨vb, rfl, OB, hb1⟩; have b6 := hb1; replace belR := belR.trans (hb1.mono belR.size); replace OA := OA.below hb1; clear hb1 HC2)))
      replace b6 := b5.trans (b6.mono b5.size)
      clear b5 x0 x1 x2 x3 x4
      obtain ⟨x0, x1, x2, x3, x4⟩ := XR.below b6
      have HC := Lib.hid (HCY.out va vb W6 belR OA.rowC OB.rowC)
      clear HCY
      go_upto_region 13 with (first | (go_at_call 32; with_reducible refine HC.out.mono ?_; rintro ee W7 ⟨vp, vq, rfl, OP, OQ, hb1⟩; have b7 := hb1; replace belR := belR.trans (hb1.mono belR.size); replace OA := OA.below hb1; replace OB := OB.below hb1; clear hb1 HC))
      replace b7 := b6.trans (b7.mono b6.size)
      clear b6 x0 x1 x2 x3 x4
      obtain ⟨x0, x1, x2, x3, x4⟩ := XR.below b7
      have b37 := b3R.trans (b7.mono b3R.size)
      have HB3 := Lib.hid (fun d os => b37.trans ((below_regrown W7 d os).mono b37.size))
      have HB7 := Lib.hid (fun d os => belR.trans ((below_regrown W7 d os).mono belR.size))
      have HBE := Lib.hid (fun d os => bR.trans ((b7.trans ((below_regrown W7 d os).mono b7.size)).mono bR.size))
      have HBS := Lib.hid (fun d os => below_regrown W7 d os)
      have HN2 := Lib.hid (fun W (hb : Below W7.heap.size W7 W) (hb2 : Below w.heap.size w W) => HNS.out va vb W hb2 (OA.below hb).rowC (OB.below hb).rowC)
      have HOP := Lib.hid (fun W (hb : Below W7.heap.size W7 W) => (OP.below hb).row)
      have HOQ := Lib.hid (fun W (hb : Below W7.heap.size W7 W) => (OQ.below hb).row)
      have g0 := cell_regrown x0
      have g1 := cell_regrown x1
      have g2 := cell_regrown x2
      have g3 := cell_regrown x3
      have g4 := cell_regrown x4
      clear x0 x1 x2 x3 x4 OA OB OP OQ HNS
      refine wp_region_rel 25 (by kernel_rfl) (by kernel_rfl) ?_
      simp only [List.take_succ_cons, List.take_zero, List.drop_succ_cons, List.drop_zero]
      (refine rel_fix0 (fun K hK => ?_); go_simp; refine hK _ ?_; clear hK K)
      (refine rel_fix0 (fun K hK => ?_); go_simp; refine hK _ ?_; clear hK K)
      refine rel_fact [] (RowOf 1 encB VL) 104 rfl (by simp [Act.put]) (row_sta _ _ _) (by rfl) (by kernel_rfl) (by kernel_rfl) ?_ ?_
      · intro d os
        simp only [relAll]
        go_simp
        exact ret_fact (HC3.out _ (HB3.out _ _))
      (refine rel_fix (by kernel_rfl) (by kernel_rfl) (fun K hK => ?_); go_simp; refine hK _ ?_; clear hK K)
      (refine rel_fix (by kernel_rfl) (by kernel_rfl) (fun K hK => ?_); go_simp; refine hK _ ?_; clear hK K)
      (refine rel_fix (by kernel_rfl) (by kernel_rfl) (fun K hK => ?_); go_simp; refine hK _ ?_; clear hK K)
      refine rel_fact [] (RowOf 1 encB VL) 108 rfl (by simp [Act.put]) (row_sta _ _ _) (by rfl) (by kernel_rfl) (by kernel_rfl) ?_ ?_
      · intro d os
        simp only [relAll]
        go_simp
        exact ret_fact (HN2.out _ (HBS.out _ _) (HB7.out _ _))
      refine rel_use [(108, _), (104, _)] (.bool true) (by rfl) (by kernel_rfl) (by kernel_rfl) ?_ ?_
      · intro d os
        simp only [relAll]
        rintro u2 r2 u1 r1
        go_simp
        exact ret_fix (HQV.out _ _ _ r1 r2)
      (refine rel_fix (by kernel_rfl) (by kernel_rfl) (fun K hK => ?_); go_simp; refine hK _ ?_; clear hK K)
      (refine rel_fix (by kernel_rfl) (by kernel_rfl) (fun K hK => ?_); go_simp; refine hK _ ?_; clear hK K)
      (refine rel_fix (by kernel_rfl) (by kernel_rfl) (fun K hK => ?_); go_simp; refine hK _ ?_; clear hK K)
      (refine rel_fix (by kernel_rfl) (by kernel_rfl) (fun K hK => ?_); go_simp; refine hK _ ?_; clear hK K)
      refine rel_fact [] (RowOf 1 encB SH) 114 rfl (by simp [Act.put]) (row_sta _ _ _) (by rfl) (by kernel_rfl) (by kernel_rfl) ?_ ?_
      · intro d os
        simp only [relAll]
        go_simp
        exact ret_fact (HC4.out _ (HB3.out _ _))
      (refine rel_fix (by kernel_rfl) (by kernel_rfl) (fun K hK => ?_); go_simp; refine hK _ ?_; clear hK K)
      refine rel_use [(114, _)] (.bool true) (by rfl) (by kernel_rfl) (by kernel_rfl) ?_ ?_
      · intro d os
        simp only [relAll]
        rintro u1 r1
        go_simp
        exact ret_fix (HQO.out _ _ _ r1 (HOP.out _ (HBS.out _ _)))
      (refine rel_fix (by kernel_rfl) (by kernel_rfl) (fun K hK => ?_); go_simp; refine hK _ ?_; clear hK K)
      (refine rel_fix (by kernel_rfl) (by kernel_rfl) (fun K hK => ?_); go_simp; refine hK _ ?_; clear hK K)
      (refine rel_fix (by kernel_rfl) (by kernel_rfl) (fun K hK => ?_); go_simp; refine hK _ ?_; clear hK K)
      (refine rel_fix (by kernel_rfl) (by kernel_rfl) (fun K hK => ?_); go_simp; refine hK _ ?_; clear hK K)
      (refine rel_fix (by kernel_rfl) (by kernel_rfl) (fun K hK => ?_); go_simp; refine hK _ ?_; clear hK K)
      refine rel_fact [] (RowOf 1 encB SN) 122 rfl (by simp [Act.put]) (row_sta _ _ _) (by rfl) (by kernel_rfl) (by kernel_rfl) ?_ ?_
      · intro d os
        simp only [relAll]
        go_simp
        exact ret_fact (HC5.out _ (HB3.out _ _))
      (refine rel_fix (by kernel_rfl) (by kernel_rfl) (fun K hK => ?_); go_simp; refine hK _ ?_; clear hK K)
      refine rel_use [(122, _)] (.bool true) (by rfl) (by kernel_rfl) (by kernel_rfl) ?_ ?_
      · intro d os
        simp only [relAll]
        rintro u1 r1
        go_simp
        exact ret_fix (HQN.out _ _ _ r1 (HOQ.out _ (HBS.out _ _)))
      (refine rel_fix (by kernel_rfl) (by kernel_rfl) (fun K hK => ?_); go_simp; refine hK _ ?_; clear hK K)
      (refine rel_fix (by kernel_rfl) (by kernel_rfl) (fun K hK => ?_); go_simp; refine hK _ ?_; clear hK K)
      refine rel_nil ?_
      intro d os
      simp only [relAll]
      rintro v122 - v114 - v108 - v104 -
      have HZ := Lib.hid (HBE.out d os)
      clear g0 g1 g2 g3 g4 HB3 HB7 HBE HBS
      generalize grow (redrawn _ d) os = W8 at HZ ⊢
      go_wp2_with fail
      go_roundw
      case rel => exact ⟨r + 1, by omega, by go_num, HZ⟩
      all_goals first | done | (simp [intOf]; done) | (simp [intOf]; omega)
    · have hri : ¬ (r : Int) < 3 := by omega
      go_wp2_with fail
      go_ret
      exact ⟨rfl, bel.trans (hB.out.mono bel.size)⟩
end Go.Proofs.Ytimojbjamfckmaa
