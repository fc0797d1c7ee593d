/- The law on values: its walk. Asked: what is said here of Values and Words, and the fact. -/
import Derived.Test.YtbphhcjepeamcaaGlEv
import Derived.Test.YtbphhcjepeamcaaGlVd
namespace Go.Proofs.Ytbphhcjepeamcaa
open Go Go.RowKit Go.Sort
set_option linter.unusedVariables false
theorem wid0 {g : Gr} {n m : Nat} (h : widE g n m = 0) : faultG g = 0 ∧ n = g.ins.length ∧ m = g.regs.length := by
  unfold widE at h
  by_cases hf : faultG g = 0
  · rw [if_pos hf] at h
    split at h
    · rename_i q; exact ⟨hf, by omega, by omega⟩
    · omega
  · rw [if_neg hf] at h; exact absurd h hf
set_option maxRecDepth 100000 in
set_option maxHeartbeats 8000000 in
theorem values_law (hF : FactC) (hV : ValuesC) (hW : WordsC) (g : Gr) (v : Value) (ins st : List Int) (vi vs : Value) (m : Nat) (hm : m < 256) (sg : Small g) (hn : ins.length ≤ 4000000000) (hs : st.length ≤ 4000000000) (wi : isW ins) (ws : isW st) (w : World) (hG : GO g v w) (h1 : RowC (fun n => Value.int .u64 n) ins vi w) (h2 : RowC (fun n => Value.int .u64 n) st vs w) : Calls Try.prog 6 #[v, vi, vs, .int .u8 (m : Int)] w fun e w' => e = .returned (.bool true) ∧ Below w.heap.size w w' := by
  have hG0 := hG
  obtain ⟨a, b, c, d0, e, a', b', c', d', e', rfl, hC, hA⟩ := hG.all
  clear hG
  have HF := Lib.hid (fun W => hF W)
  clear hF
  have HI := Lib.hid (fun W (hb : Below w.heap.size w W) => h1.below hb)
  have HS := Lib.hid (fun W (hb : Below w.heap.size w W) => h2.below hb)
  obtain ⟨ai, ci, rfl, hi1, hin, hi2⟩ := h1
  obtain ⟨az, cz, rfl, hs1, hsn, hs2⟩ := h2
  clear hi1 hi2 hs1 hs2 hin hsn
  go_enter Try.func6, Try.ntmps6
  go_upto_region 1 with fail
  have bel := (Below.refl w.heap.size w).alloc (Nat.le_refl _) (.cells #[.slice a g.ins.length a', .slice b g.outN.length b', .slice c g.regs.length c', .slice d0 g.ands.length d', .slice e g.outs.length e'] 28)
  have X := GX.new w (.slice a g.ins.length a') (.slice b g.outN.length b') (.slice c g.regs.length c') (.slice d0 g.ands.length d') (.slice e g.outs.length e') 28
  generalize w.alloc (.cells #[.slice a g.ins.length a', .slice b g.outN.length b', .slice c g.regs.length c', .slice d0 g.ands.length d', .slice e g.outs.length e'] 28) = W0 at bel X ⊢
  generalize hk : w.heap.size = k at X ⊢
  have HK := Lib.hid hk
  clear hk
  obtain ⟨x0, x1, x2, x3, x4⟩ := id X
  have H1 := Lib.hid (hV g _ ins st _ _ W0 sg hn hs wi ws (hG0.below bel) (HI.out _ bel) (HS.out _ bel))
  go_upto_region 2 with (first | (go_at_call 34; refine H1.out.mono ?_; rintro ee W1 ⟨vv, L, rfl, R1, K1, hb1⟩; replace bel := bel.trans (hb1.mono bel.size); replace X := X.below hb1; clear hb1 H1 x0 x1 x2 x3 x4; obtain ⟨x0, x1, x2, x3, x4⟩ := id X))
  have H1 := Lib.hid (hW g _ ins st _ _ W1 sg hn hs wi ws (hG0.below bel) (HI.out _ bel) (HS.out _ bel))
  go_upto_region 3 with (first | (go_at_call 35; refine H1.out.mono ?_; rintro ee W2 ⟨vo, vn, O, N, rfl, R2, R3, K2, hb1⟩; replace bel := bel.trans (hb1.mono bel.size); replace X := X.below hb1; replace R1 := R1.below hb1; clear hb1 H1 x0 x1 x2 x3 x4; obtain ⟨x0, x1, x2, x3, x4⟩ := id X))
  have H1 := Lib.hid (widths_any g _ ins.length st.length sg W2 (hG0.below bel))
  go_upto_region 4 with (first | (go_at_call 36; refine H1.out.mono ?_; rintro ee W3 ⟨rfl, hb1⟩; replace bel := bel.trans (hb1.mono bel.size); replace X := X.below hb1; replace R1 := R1.below hb1; replace R2 := R2.below hb1; replace R3 := R3.below hb1; clear hb1 H1 x0 x1 x2 x3 x4; obtain ⟨x0, x1, x2, x3, x4⟩ := id X))
  clear hV hW
  by_cases hw : widE g ins.length st.length = 0
  rotate_left
  · obtain rfl := K1.no hw
    obtain ⟨rfl, rfl⟩ := K2.no hw
    obtain ⟨ad, cp, rfl, hcp, R1⟩ := R1.open'
    obtain ⟨ad2, cp2, rfl, hcp2, R2⟩ := R2.open'
    obtain ⟨ad3, cp3, rfl, hcp3, R3⟩ := R3.open'
    clear K1 K2 hG0 hC hA R1 R2 R3
    generalize widE g ins.length st.length = f at hw ⊢
    have hfb : (f == 0) = false := beq_eq_false_iff_ne.2 hw
    have hfc : (f != 0) = true := by simp [bne, hfb]
    go_wp2_with (first | (go_at_call 15; refine (HF.out _).mono ?_; rintro ee w3 ⟨rfl, hb3⟩))
    go_ret
    exact ⟨rfl, bel.trans (hb3.mono bel.size)⟩
  · obtain ⟨hf, e1, e2⟩ := wid0 hw
    have vg := vg_of hf
    obtain ⟨hLl, hLk⟩ := K1.yes hw
    have hON := K2.yes hw
    have hLw := K1.wd
    have hOw := K2.wo
    have hNw := K2.wn
    rw [hw]
    have n1 := vg.ins
    have n2 := vg.regs
    have n3 := vg.ands
    have n4 : g.outs.length ≤ 128 := by have := vg.same; have := vg.outN; omega
    have hLi : (L.length : Int) = 1 + (g.ins.length : Int) + (g.regs.length : Int) + (g.ands.length : Int) := by rw [hLl]; unfold n0L; omega
    have HRL := Lib.hid (fun W (hb : Below W3.heap.size W3 W) => R1.below hb)
    have HRO := Lib.hid (fun W (hb : Below W3.heap.size W3 W) => R2.below hb)
    have HRN := Lib.hid (fun W (hb : Below W3.heap.size W3 W) => R3.below hb)
    obtain ⟨ad, cp, rfl, hcp, R1⟩ := R1.open'
    clear R1 R2 R3 K1 K2 hw hcp hf
    have HLL := Lib.hid hLl
    have HE1 := Lib.hid e1
    have HE2 := Lib.hid e2
    clear hLl e1 e2
    have hm2 : 0 ≤ (m : Int) := by omega
    have hm3 : (m : Int) < 256 := by omega
    go_upto_region 6 with fail
    go_upto_region 8 with (first | (go_at_call 15; refine (HF.out _).mono ?_; rintro ee W4 ⟨rfl, hb1⟩; have B34 := Lib.hid hb1; replace bel := bel.trans (hb1.mono bel.size); replace X := X.below hb1; clear x0 x1 x2 x3 x4; obtain ⟨x0, x1, x2, x3, x4⟩ := id X))
    clear hLi
    go_upto_block 0 with fail
    have hmm : (m : Int) % 64 = ((m % 64 : Nat) : Int) := by omega
    have hm64 : m % 64 < 64 := Nat.mod_lt _ (by decide)
    have bK : Below W4.heap.size W4 (W4.alloc (.cells #[.int .i64 0, .int .i64 ((m : Int) % 64), .int .i64 63] 3)) := (Below.refl _ W4).alloc (Nat.le_refl _) _
    have AK : Arr 3 (fun n : Int => Value.int .i64 n) W4.heap.size [0, (m : Int) % 64, 63] (W4.alloc (.cells #[.int .i64 0, .int .i64 ((m : Int) % 64), .int .i64 63] 3)) := ⟨by show (W4.heap.push _)[W4.heap.size]? = _; simp⟩
    have X4 := X
    replace X := X.below bK
    have b34 := Lib.hid bel
    replace bel := bel.trans (bK.mono bel.size)
    clear x0 x1 x2 x3 x4
    generalize W4.alloc (.cells #[.int .i64 0, .int .i64 ((m : Int) % 64), .int .i64 63] 3) = WA at bK AK X bel ⊢
    generalize W4.heap.size = bs at AK ⊢
    rw [hmm] at AK
    clear hmm
    generalize m % 64 = kk at hm64 AK
    go_wp2_with fail
    go_loopw [105] (fun i wr => ∃ r : Nat, r ≤ 3 ∧ i = .int .i64 (r : Int) ∧ Hid (Below WA.heap.size WA wr)) (fun i _ => 3 - (intOf i).toNat)
    case atStart => exact ⟨0, by omega, rfl, Lib.hid (Below.refl _ _)⟩
    case round =>
      obtain ⟨r, hr, rfl, hB⟩ := hrel
      rename World => WR
      have hr0 : (0 : Int) ≤ (r : Int) := by omega
      by_cases hlt : r < 3
      · have hri : (r : Int) < 3 := by omega
        obtain ⟨kq, hk64, hkc⟩ : ∃ kq : Nat, kq < 64 ∧ WR.cell? ⟨bs, r, none⟩ = some (.int .i64 (kq : Int)) := by
          have hc := (AK.below hB.out).cell (j := r) (by simp; omega)
          match r, hlt, hc with
          | 0, _, hc => exact ⟨0, by omega, hc⟩
          | 1, _, hc => exact ⟨kk, hm64, hc⟩
          | 2, _, hc => exact ⟨63, by omega, hc⟩
        have bR := hB.out
        have belR := bel.trans (bR.mono bel.size)
        have b3R := B34.out.trans ((bK.trans (bR.mono bK.size)).mono B34.out.size)
        have XR := X.below bR
        clear hB
        obtain ⟨x0, x1, x2, x3, x4⟩ := id XR
        have eA : (ins.map (colB kq)).length = g.ins.length := by rw [List.length_map]; exact HE1.out
        have eB : (st.map (colB kq)).length = g.regs.length := by rw [List.length_map]; exact HE2.out
        obtain ⟨hk1, hk2⟩ := hON kq hk64
        have hk3 := hLk kq hk64
        have HC1 := Lib.hid (column_any ins (.slice ai ins.length ci) kq hk64 hn wi WR (HI.out WR belR).row)
        have HC2 := Lib.hid (fun W (hb : Below w.heap.size w W) => column_any st (.slice az st.length cz) kq hk64 hs ws W (HS.out W hb).row)
        have HC3 := Lib.hid (fun W (hb : Below W3.heap.size W3 W) => column_any L (.slice ad L.length cp) kq hk64 (by have := HLL.out; unfold n0L at this; omega) hLw W (HRL.out W hb))
        have hOl : O.length ≤ 4000000000 := by have := congrArg List.length hk1; rw [List.length_map] at this; unfold shows at this; rw [List.length_map] at this; omega
        have hNl : N.length ≤ 4000000000 := by have := congrArg List.length hk2; rw [List.length_map] at this; unfold nexts at this; rw [List.length_map] at this; omega
        have HC4 := Lib.hid (fun W (hb : Below W3.heap.size W3 W) => column_any O vo kq hk64 hOl hOw W (HRO.out W hb))
        have HC5 := Lib.hid (fun W (hb : Below W3.heap.size W3 W) => column_any N vn kq hk64 hNl hNw W (HRN.out W hb))
        rw [hk3] at HC3
        rw [hk1] at HC4
        rw [hk2] at HC5
        have hVx : (false :: (ins.map (colB kq) ++ st.map (colB kq))).length = n0L g := by simp only [List.length_cons, List.length_append, eA, eB]; unfold n0L; omega
        have hVl := valsG_len g _ hVx
        have hVA := vals_at g vg _ hVx
        have hDl := dSt_len (n0L g + g.ands.length) (ins.map (colB kq) ++ st.map (colB kq)) (ins.map (colB kq) ++ st.map (colB kq)).length
        have hKn := dSt_knows g (ins.map (colB kq) ++ st.map (colB kq)) (by simpa [Nat.add_comm] using hVx)
        have hBs := dSt_base g (ins.map (colB kq) ++ st.map (colB kq)) (by simpa [Nat.add_comm] using hVx)
        have hs1 : (shows g (ins.map (colB kq)) (st.map (colB kq))).length ≤ 4000000000 := by unfold shows; simp; omega
        have hs2 : (nexts g (ins.map (colB kq)) (st.map (colB kq))).length ≤ 4000000000 := by unfold nexts; simp; omega
        clear hk1 hk2 hk3 hVx hOl hNl
        generalize valsG g (false :: (ins.map (colB kq) ++ st.map (colB kq))) = V at HC3 hVl hVA hKn
        have HCY := Lib.hid (fun va vb W (hb : Below w.heap.size w W) q1 q2 => cycle_any g _ va vb _ _ vg eA eB (by omega) W (hG0.below hb) q1 q2)
        have HNS := Lib.hid (fun va vb W (hb : Below w.heap.size w W) q1 q2 => newSheet_any g _ va vb _ _ vg eA eB W (hG0.below hb) q1 q2)
        generalize shows g (ins.map (colB kq)) (st.map (colB kq)) = SH at HC4 HCY hs1
        generalize nexts g (ins.map (colB kq)) (st.map (colB kq)) = NX at HC5 HCY hs2
        clear hON hLk hLw hOw hNw
        go_upto_region 12 with (first | (go_at_call 37; first | (with_reducible refine HC1.out.mono ?_; rintro ee W5 ⟨va, rfl, OA, hb1⟩; have b5 := hb1; replace belR := belR.trans (hb1.mono belR.size); clear hb1 HC1) | (with_reducible refine (HC2.out _ belR).mono ?_; rintro ee W6 ⟨vb, rfl, OB, hb1⟩; have b6 := hb1; replace belR := belR.trans (hb1.mono belR.size); replace OA := OA.below hb1; clear hb1 HC2)))
        replace b6 := b5.trans (b6.mono b5.size)
        clear b5 x0 x1 x2 x3 x4
        obtain ⟨x0, x1, x2, x3, x4⟩ := XR.below b6
        have HC := Lib.hid (HCY.out va vb W6 belR OA.rowC OB.rowC)
        clear HCY
        go_upto_region 13 with (first | (go_at_call 38; with_reducible refine HC.out.mono ?_; rintro ee W7 ⟨vp, vq, rfl, ⟨B1, OP⟩, ⟨B2, OQ⟩, hb1⟩; have b7 := hb1; replace belR := belR.trans (hb1.mono belR.size); replace OA := OA.below hb1; replace OB := OB.below hb1; clear hb1 HC))
        replace b7 := b6.trans (b7.mono b6.size)
        clear b6 x0 x1 x2 x3 x4
        obtain ⟨x0, x1, x2, x3, x4⟩ := XR.below b7
        have HC := Lib.hid (HNS.out va vb W7 belR OA.rowC OB.rowC)
        clear HNS
        go_upto_region 14 with (first | (go_at_call 39; with_reducible refine HC.out.mono ?_; rintro ee W8 ⟨⟨k1, q, sa, sb, sc, sd, se, sa', sb', sc', sd', se', rfl, hkq, hwq, hwk, hA2, hC2, S⟩⟩))
        have S1 : SK g V k1 q (.slice sa g.ins.length sa') (.slice sb g.outN.length sb') (.slice sc g.regs.length sc') (.slice sd g.ands.length sd') (.slice se g.outs.length se') W7 W8 := ⟨_, S, hDl, hKn, hBs⟩
        have HI2 := Lib.hid (fun l h0 h1 W hS => is_sk g vg V hVl hVA k1 q (.slice sb g.outN.length sb') (.slice se g.outs.length se') sa sc sd sa' sc' sd' hC2.ands W7 hA2.ands hkq hwq l h0 h1 W hS)
        generalize Value.slice sa g.ins.length sa' = ua at S1 HI2
        generalize Value.slice sb g.outN.length sb' = ub at S1 HI2
        generalize Value.slice sc g.regs.length sc' = uc at S1 HI2
        generalize Value.slice sd g.ands.length sd' = ud at S1 HI2
        generalize Value.slice se g.outs.length se' = ue at S1 HI2
        clear S hDl hKn hBs hVA HC hA2 hC2 OA OB x0 x1 x2 x3 x4 hkc
        have b8 := b7.trans (S1.bel.mono b7.size)
        have HC := Lib.hid (HC3.out W8 (b3R.trans (b8.mono b3R.size)))
        clear HC3
        have hVn : V.length ≤ 5000 := by rw [hVl]; unfold n0L; omega
        have hal := allL_eq g
        have hVi := Lib.hid (show ∀ j : Nat, j < V.length → 2 * (j : Int) < allL g from fun j hj => by rw [hal]; rw [hVl] at hj; unfold n0L at hj; omega)
        clear hal hVl
        go_upto_block 2 with (first | (go_at_call 37; with_reducible refine HC.out.mono ?_; rintro ee W9 ⟨vc, rfl, OV, hb9⟩; obtain ⟨av, cv, hv⟩ := OV.slice; subst hv))
        clear HC
        have hq8 := S1.qlt
        have S9 := S1.below hb9
        go_wp2_with fail
        go_loopw [130] (fun i wr => ∃ j : Nat, j ≤ V.length ∧ i = .int .i64 (j : Int) ∧ Hid (SK g V k1 q ua ub uc ud ue W7 wr) ∧ Hid (Own W8.heap.size 4 (fun b => Value.bool b) wr (.slice av V.length cv) V)) (fun i _ => V.length - (intOf i).toNat)
        case atStart => exact ⟨0, Nat.zero_le _, rfl, Lib.hid S9, Lib.hid OV⟩
        case round =>
          clear S9 OV S1
          obtain ⟨j, hj, rfl, hS, hO⟩ := hrel
          rename World => WS
          have hj0 : (0 : Int) ≤ (j : Int) := by omega
          by_cases hlt : j < V.length
          · have hji : (j : Int) < (V.length : Int) := by omega
            have HL2 := Lib.hid (show litV V (2 * (j : Int)) = V[j]! by unfold litV ndL; rw [show (2 * (j : Int) / 2).toNat = j by omega, decide_eq_false (by omega)]; simp)
            have HC := Lib.hid (HI2.out (2 * (j : Int)) (by omega) (hVi.out j hlt) WS hS.out)
            rw [HL2.out] at HC
            obtain ⟨ad9, cp9, he9, hc9, hr9⟩ := hO.out.row.open'
            cases he9
            obtain ⟨bb, oo, rfl, hcell⟩ := RowAt.pick hr9 (by omega)
            have c0 := hcell j hlt 0 _ rfl
            simp only [Nat.mul_one, Nat.add_zero] at c0
            clear hcell hr9
            generalize V[j]! = bj at c0 HC
            clear HL2
            go_wp2_with (first | (go_at_call 40; refine HC.out.mono ?_; rintro ee WT ⟨rfl, hS5, hF5⟩))
            have HS5 := Lib.hid hS5
            have HO5 := Lib.hid (hO.out.fr hF5 hq8)
            clear hS5 hF5 HC hS hO c0
            go_wp2_with fail
            go_roundw
            case rel => exact ⟨j + 1, by omega, by go_num, HS5, HO5⟩
            all_goals first | done | (simp [intOf]; done) | (simp [intOf]; omega)
          · have hji : ¬ (j : Int) < (V.length : Int) := by omega
            have bS := hS.out.bel
            have bZ := b7.trans (bS.mono b7.size)
            have b3Z := b3R.trans (bZ.mono b3R.size)
            have OPS := OP.below bS
            have OQS := OQ.below bS
            have H4 := Lib.hid (HC4.out WS b3Z)
            have H5 := Lib.hid (fun W (hb : Below WS.heap.size WS W) => HC5.out W (b3Z.trans (hb.mono b3Z.size)))
            have HQ1 := Lib.hid (fun v1 v2 W q1 q2 => by have := equalB_any SH SH v1 v2 hs1 hs1 W q1 q2; rwa [decide_eq_true (rfl : SH = SH)] at this)
            have HQ2 := Lib.hid (fun v1 v2 W q1 q2 => by have := equalB_any NX NX v1 v2 hs2 hs2 W q1 q2; rwa [decide_eq_true (rfl : NX = NX)] at this)
            have bE := Below.refl WS.heap.size WS
            clear HC4 HC5 hS hO OP OQ
            go_wp2_with (first | (go_at_call 37; first | (with_reducible refine H4.out.mono ?_; rintro ee Wa ⟨vo1, rfl, OO, hb1⟩; replace bE := bE.trans (hb1.mono bE.size); replace OPS := OPS.below hb1; replace OQS := OQS.below hb1; clear hb1 H4) | (with_reducible refine (H5.out _ bE).mono ?_; rintro ee Wc ⟨vo2, rfl, OO, hb1⟩; replace bE := bE.trans (hb1.mono bE.size); replace OQS := OQS.below hb1; clear hb1 H5)) | (go_at_call 41; first | (refine (HQ1.out _ _ _ OO.row OPS.row).mono ?_; rintro ee Wb ⟨rfl, hb1⟩; replace bE := bE.trans (hb1.mono bE.size); replace OQS := OQS.below hb1; clear hb1 OO OPS HQ1) | (refine (HQ2.out _ _ _ OO.row OQS.row).mono ?_; rintro ee Wd ⟨rfl, hb1⟩; replace bE := bE.trans (hb1.mono bE.size); clear hb1 OO OQS HQ2)))
            have HBE := Lib.hid (bR.trans ((bZ.trans (bE.mono bZ.size)).mono bR.size))
            go_roundw
            case rel => exact ⟨r + 1, by omega, by go_num, HBE⟩
            all_goals first | done | (simp [intOf]; done) | (simp [intOf]; omega)
      · have hri : ¬ (r : Int) < 3 := by omega
        go_wp2_with fail
        go_ret
        exact ⟨rfl, bel.trans (hB.out.mono bel.size)⟩
end Go.Proofs.Ytbphhcjepeamcaa
