/- The reference's nodeFault: a node in a place of a class, and all below. -/
import Derived.Test.YtpjnjcljaoaceaaSyNfM
import Derived.Deep.DeepCutAuto
namespace Go.Proofs.Ytpjnjcljaoaceaa
open Go Go.RowKit Go.Sort
set_option linter.unusedVariables false
set_option maxRecDepth 100000 in
set_option maxHeartbeats 8000000 in
theorem fault_step (d : Nat) (ih : FaultTo d) : FaultTo (d + 1) := by
  intro T hd hc hu hk0 c hc45 gt ct hct w hTB hT
  obtain ⟨k, l, co, nm, tx, n, v, x, s, a, cap, ks⟩ := T
  have hrow := Lib.hid hT.row
  have hall := Lib.hid hT.all
  have hun := Lib.hid hu.all
  have hdd : depL ks ≤ d := by unfold Nd.dep at hd; omega
  have hcc : 1 + cntL ks ≤ 1000000 := by unfold Nd.cnt at hc; exact hc
  have hlen : ks.length ≤ 1000000 := by have := len_cntL ks; omega
  have IH := Lib.hid ih
  have HT := Lib.hid hTB
  have H45 := Lib.hid hc45
  clear ih hTB hc45
  obtain ⟨R, hR⟩ : ∃ R, chkN (d + 1) (Nd.mk k l co nm tx n v x s a cap ks) c = R := ⟨_, rfl⟩
  rw [hR]
  have hkk : k ≠ 0 := hk0
  clear hk0
  obtain ⟨AM, hAM⟩ : ∃ A, ambK d (.mk k l co nm tx n v x s a cap ks) = A := ⟨_, rfl⟩
  have HAM : Hid ((k == 57 && amb3 d ks) = AM) := Lib.hid hAM
  obtain ⟨M, hMM⟩ : ∃ M, mt (formO k).2.1 ks = M := ⟨_, rfl⟩
  obtain ⟨BE, hBE⟩ : ∃ B, bel k c = B := ⟨_, rfl⟩
  obtain ⟨E, hE⟩ : ∃ E, fldN (formO k).2.2 (.mk k l co nm tx n v x s a cap ks) = E := ⟨_, rfl⟩
  have HW := Lib.hid (chkN_ways d k l co nm tx n v x s a cap ks c hR hE hMM hBE hAM)
  have HIF : Hid (∀ L, M = some L → k = 57 → ks.length = 3) := Lib.hid (fun L h e => by subst e; rw [← hMM] at h; exact mt_if h)
  have HML : Hid (∀ L, M = some L → L.length = ks.length) := Lib.hid (fun L h => mt_len _ _ _ _ (Nat.le_refl _) (hMM.trans h))
  have HM45 : Hid (∀ L, M = some L → ∀ c ∈ L, c ≠ 45) := Lib.hid (fun L h => mt_no45 (hMM.trans h))
  have hFld := fun (m : Nat) (hm : m < 122) (e : k = (m : Int)) W => rfields_nd m hm k l co nm tx n v x s a cap ks hu W
  have HFld : Hid (∀ (m : Nat), m < 122 → k = (m : Int) → ∀ W, Calls Try.prog 17 #[.string (bs (dash (formO (m : Int)).2.2)), .agg #[.int .i64 k, .int .i64 l, .int .i64 co, .string nm, .string tx, .int .i64 n, .int .u64 v, .int .u64 x, .bool s, .slice a ks.length cap]] W fun e w' => e = .returned (.int .i64 E) ∧ Below W.heap.size W w') := Lib.hid (fun m hm e W => by
    have h := hFld m hm e W
    rw [← e] at h ⊢
    rw [hE] at h
    exact h)
  have HTk : Hid (∀ W, Below w.heap.size w W → Calls Try.prog 18 #[.slice (some ⟨gt, 0, none⟩) 122 ct, .string (bs (formO k).2.1), .slice a ks.length cap] W fun e w' => ∃ v, e = .returned (.tuple #[v, .bool M.isSome]) ∧ (∀ l, M = some l → OS W.heap.size w' v (l.map oneB)) ∧ Below W.heap.size W w') := Lib.hid (fun W hb => by
    have h := rtaken_any (formO k).2.1 ks a cap gt ct hct hlen form_no45 W (HT.out.below hb) (hrow.out.below hb)
    rw [hMM] at h
    exact h)
  have HHg : Hid (∀ K ∈ ks, ∀ W, Below w.heap.size w W → Calls Try.prog 19 #[K.val] W fun e w' => e = .returned (.bool (dan d K)) ∧ Below W.heap.size W w') := Lib.hid (fun K hK W hb => hangs_any d K (Nat.le_trans (depL_mem hK) hdd) (by have := cntL_mem hK; omega) W ((hall.out K hK).keep hb))
  clear hFld hu hT hd hc hR hAM hMM hE
  simp only [Nd.val]
  obtain ⟨W1, hW1⟩ : ∃ W, W = w.alloc (.cells #[.int .i64 k, .int .i64 l, .int .i64 co, .string nm, .string tx, .int .i64 n, .int .u64 v, .int .u64 x, .bool s, .slice a ks.length cap] 34) := ⟨_, rfl⟩
  have BX : Below w.heap.size w W1 := by rw [hW1]; exact (Below.refl _ _).alloc (Nat.le_refl _) _
  have FX : NB W1 w.heap.size k l co nm tx n v x s a ks.length cap := by rw [hW1]; exact ⟨by go_simp, by go_simp, by go_simp, by go_simp, by go_simp, by go_simp, by go_simp, by go_simp, by go_simp, by go_simp⟩
  have HBE := Lib.hid hBE
  have HKK := Lib.hid hkk
  clear hBE hkk
  obtain ⟨CS, hCS⟩ : ∃ C, bs [c] = C := ⟨_, rfl⟩
  have HCS := Lib.hid hCS
  rw [hCS]
  clear hCS
  go_enter Try.func11, Try.ntmps11
  go_upto_block 0 with fail
  rw [← hW1]
  clear hW1
  go_cut [] (fun wx => ((decide ((k : Int) < 0) || decide (121 < k)) = false ∧ (decide (l < 0) || decide (co < 0)) = false ∧ BE = true) ∧ W1 = wx)
  case first =>
    as_aux_lemma =>
    clear HTk HHg HAM HML HM45 HIF HFld
    go_upto_region 1 with fail
    go_cut [15] (fun sv wx => sv = .bool ((decide (k < 0) || decide (121 < k)) || (decide (l < 0) || decide (co < 0))) ∧ W1 = wx)
    case first =>
      as_aux_lemma =>
      obtain ⟨c0, c1, c2, c3, c4, c5, c6, c7, c8, c9⟩ := id FX
      by_cases h0 : k < 0
      · go_wp2_with fail
        go_meet
        exact ⟨by simp [h0], rfl⟩
      · by_cases h1 : 122 ≤ k
        · go_wp2_with fail
          go_meet
          exact ⟨by simp [show 121 < k by omega], rfl⟩
        · have h2 : ¬ 121 < k := by omega
          by_cases h3 : l < 0
          · go_wp2_with fail
            go_meet
            exact ⟨by simp [h3], rfl⟩
          · by_cases h4 : co < 0
            · go_wp2_with fail
              go_meet
              exact ⟨by simp [h4], rfl⟩
            · go_wp2_with fail
              go_meet
              exact ⟨by simp [h0, h2, h3, h4], rfl⟩
    case rest =>
    obtain ⟨rfl, rfl⟩ := hcut
    obtain ⟨E1, hE1⟩ : ∃ E, (decide (k < 0) || decide (121 < k)) = E := ⟨_, rfl⟩
    have hE2 : (k != 0 && (decide (l < 0) || decide (co < 0))) = (decide (l < 0) || decide (co < 0)) := by
      rw [show (k != 0) = true by simpa using HKK.out, Bool.true_and]
    have hW2 := HW.out
    rw [hE1, hE2] at hW2
    clear HW hE2
    generalize hE2 : (decide (l < 0) || decide (co < 0)) = E2 at *
    have HE2 := Lib.hid hE2
    have HE1 := Lib.hid hE1
    clear hE2
    rw [hE1]
    have HW := Lib.hid hW2
    clear hW2
    cases E1
    case true =>
      have HR2 := Lib.hid (HW.out.1 rfl)
      clear HW hE1
      simp only [Bool.true_or]
      go_wp2_with fail
      go_ret
      exact ⟨by rw [HR2.out]; rfl, BX⟩
    case false =>
    cases E2
    case true =>
      have HR2 := Lib.hid (HW.out.2.1 rfl rfl)
      clear HW hE1
      simp only [Bool.or_true]
      go_wp2_with fail
      go_ret
      exact ⟨by rw [HR2.out]; rfl, BX⟩
    case false =>
    simp only [Bool.or_false]
    have hk1 : 0 ≤ k ∧ k < 122 := by simp at hE1; omega
    obtain ⟨m, rfl⟩ : ∃ m : Nat, k = (m : Int) := ⟨k.toNat, by omega⟩
    have hm : m < 122 := by omega
    clear hE1 hk1
    have HCo : Hid (∀ W, Calls Try.prog 16 #[.string (bs (dash (formO (m : Int)).1)), .string CS] W fun e w' => e = .returned (.bool BE) ∧ W = w') := Lib.hid (fun W => by
      have h := contains1 (dash (formO (m : Int)).1) c (dash_len m hm) W
      rw [dash_has _ _ H45.out, HCS.out] at h
      rw [← HBE.out]
      exact h)
    have t0 := ((HT.out.below BX) m hm).1
    have hmi : (m : Int) < 122 := by omega
    have hm0 : (0 : Int) ≤ (m : Int) := by omega
    clear HT hm
    generalize bs (dash (formO (m : Int)).1) = FA at *
    obtain ⟨c0, c1, c2, c3, c4, c5, c6, c7, c8, c9⟩ := id FX
    cases BE
    case false =>
      have HR2 := Lib.hid (HW.out.2.2.1 rfl rfl rfl)
      clear HW
      go_wp2_with (refine (HCo.out _).mono ?_; rintro e w3 ⟨rfl, rfl⟩)
      go_ret
      exact ⟨by rw [HR2.out]; rfl, BX⟩
    case true =>
      go_wp2_with (refine (HCo.out _).mono ?_; rintro e w3 ⟨rfl, rfl⟩)
      go_meet
      exact ⟨⟨by first | exact HE1.out | trivial, by first | exact HE2.out | trivial, by first | rfl | trivial⟩, by first | rfl | trivial⟩
  case rest =>
  obtain ⟨⟨hE1, hE2, rfl⟩, rfl⟩ := hcut
  have hE3 : (k != 0 && (decide (l < 0) || decide (co < 0))) = false := by rw [hE2]; simp
  have hW2 := HW.out
  rw [hE1, hE3] at hW2
  clear HW hE2 hE3
  have HW := Lib.hid hW2
  clear hW2
  have hk1 : 0 ≤ k ∧ k < 122 := by simp at hE1; omega
  obtain ⟨m, rfl⟩ : ∃ m : Nat, k = (m : Int) := ⟨k.toNat, by omega⟩
  have hm : m < 122 := by omega
  clear hE1 hk1
  have HFl := Lib.hid (HFld.out m hm rfl)
  have q0 : Hid (∀ W, Below w.heap.size w W → W.cell? ⟨gt, m * 3, none⟩ = some (.string (bs (dash (formO (m : Int)).1))) ∧ W.cell? ⟨gt, m * 3 + 1, none⟩ = some (.string (bs (formO (m : Int)).2.1)) ∧ W.cell? ⟨gt, m * 3 + 2, none⟩ = some (.string (bs (dash (formO (m : Int)).2.2)))) := Lib.hid (fun W hb => (HT.out.below hb) m hm)
  clear HFld HBE
  generalize bs (dash (formO (m : Int)).1) = FA at *
  generalize bs (formO (m : Int)).2.1 = FP at *
  generalize bs (dash (formO (m : Int)).2.2) = FF at *
  have hmi : (m : Int) < 122 := by omega
  have hm0 : (0 : Int) ≤ (m : Int) := by omega
  go_upto_region 5 with fail
  go_cut [7] (fun sv wx => sv = .int .i64 E ∧ RowKit.Below W1.heap.size W1 wx)
  case first =>
    as_aux_lemma =>
    obtain ⟨t0, t1, t2⟩ := q0.out W1 BX
    have cK : ∀ dd os, Calls Try.prog 17 #[_, _] (grow (redrawn W1 dd) os) fun e w'' => e = .returned (.int .i64 E) ∧ ∃ p : Regrown, w'' = grow (redrawn W1 p.d) p.os := fun dd os => Calls.regrown_of (HFl.out _)
    obtain ⟨d0, d1, d2, d3, d4, d5, d6, d7, d8, d9⟩ := id FX
    have G0 := cell_regrown d0
    have G1 := cell_regrown d1
    have G2 := cell_regrown d2
    have G3 := cell_regrown d3
    have G4 := cell_regrown d4
    have G5 := cell_regrown d5
    have G6 := cell_regrown d6
    have G7 := cell_regrown d7
    have G8 := cell_regrown d8
    have G9 := cell_regrown d9
    have Gt := cell_regrown t2
    refine wp_region_quiet_below (by kernel_rfl) (by kernel_rfl) ?_
    repeat (quiet_step (first | (with_reducible exact cK _ _)))
    refine wpQuiet_nil ?_
    intro _ hw'
    obtain ⟨⟨dq, osq⟩, hw''⟩ := hw'
    subst hw''
    have bq := below_regrown W1 dq osq
    generalize grow (redrawn W1 dq) osq = W10 at bq ⊢
    go_wp2_with fail
    go_meet
    exact ⟨rfl, bq⟩
  case rest =>
  obtain ⟨rfl, hb3⟩ := hcut
  rename World => W4
  replace FX := FX.below hb3
  replace BX := BX.trans (hb3.mono BX.size)
  clear hb3 HFl
  go_upto_if 55 with fail
  go_cut [] (fun wx => E = 0 ∧ W4 = wx)
  case first =>
    as_aux_lemma =>
    clear HTk HHg HAM HML HM45 HIF HT q0
    cases hE0 : (E != 0)
    case true =>
      have HR2 := Lib.hid (HW.out.2.2.2.1 rfl rfl rfl (by simpa using hE0))
      clear HW
      go_wp2_with fail
      go_ret
      exact ⟨by rw [HR2.out]; rfl, BX⟩
    case false =>
      have hEz := Lib.hid (show E = 0 by simpa using hE0)
      go_wp2_with fail
      go_meet
      exact ⟨hEz.out, rfl⟩
  case rest =>
  obtain ⟨rfl, rfl⟩ := hcut
  go_upto_region 8 with fail
  go_cut [8, 9] (fun vq ok wx => ok = .bool M.isSome ∧ ∃ vv, vv = vq ∧ (∀ L, M = some L → OS W4.heap.size wx vv (L.map oneB)) ∧ RowKit.Below W4.heap.size W4 wx)
  case first =>
    as_aux_lemma =>
    obtain ⟨t0, t1, t2⟩ := q0.out W4 BX
    obtain ⟨c0, c1, c2, c3, c4, c5, c6, c7, c8, c9⟩ := id FX
    clear HW HIF HML HM45 HHg HAM
    go_region_with (refine (HTk.out _ (by first | exact BX | exact BX.drew)).mono ?_; rintro e w3 ⟨vv, rfl, hO, hb3⟩)
    all_goals (go_wp2_with fail; go_meet; exact ⟨rfl, _, rfl, fun L hL => (hO L hL), ((Below.refl W4.heap.size W4).drew).trans (hb3.mono (Nat.le_refl _))⟩)
  case rest =>
  obtain ⟨rfl, vv, hvq, hO, hb3⟩ := hcut
  subst hvq
  rename World => W5
  have hw4 : W4.heap.size ≤ W5.heap.size := hb3.size
  replace FX := FX.below hb3
  replace BX := BX.trans (hb3.mono BX.size)
  have HO := Lib.hid hO
  clear hb3 HTk q0 hO
  go_upto_region 9 with fail
  go_cut [91] (fun sv wx => sv = .bool (!M.isSome || AM) ∧ RowKit.Below W5.heap.size W5 wx)
  case first =>
    as_aux_lemma =>
    obtain ⟨c0, c1, c2, c3, c4, c5, c6, c7, c8, c9⟩ := id FX
    clear HW HML HM45 HO
    cases M with
    | none =>
      go_wp2_with fail
      go_meet
      exact ⟨by simp, Below.refl _ _⟩
    | some L =>
      cases h57 : ((m : Int) == 57)
      · have HA : Hid (AM = false) := Lib.hid (by rw [← HAM.out, h57]; rfl)
        go_wp2_with fail
        go_meet
        exact ⟨by rw [HA.out]; rfl, Below.refl _ _⟩
      · have hk57 : (m : Int) = 57 := by simpa using h57
        have h3 := HIF.out L rfl hk57
        have HA : Hid (AM = amb3 d ks) := Lib.hid (by rw [← HAM.out, h57, Bool.true_and])
        clear hk57 HAM HIF
        obtain ⟨K0, K1, K2, rfl⟩ := len3 h3
        clear h3
        obtain ⟨b, o, ha, hf⟩ := hrow.out.2 (by simp)
        subst ha
        have hf1 := (hf 1 (by simp)).below BX
        have hf2 := (hf 2 (by simp)).below BX
        have hg := fun W (hb : RowKit.Below W5.heap.size W5 W) => HHg.out K1 (by simp) W (BX.trans (hb.mono BX.size))
        have HA2 : Hid (AM = (!(K2.kind == 0) && dan d K1)) := HA
        clear HHg HA hf
        generalize dan d K1 = DV at *
        simp only [List.getElem_cons_zero, List.getElem_cons_succ] at hf1 hf2
        obtain ⟨k1, l1, co1, nm1, tx1, n1, v1, x1, s1, a1, cap1, ks1⟩ := K1
        obtain ⟨k2, l2, co2, nm2, tx2, n2, v2, x2, s2, a2, cap2, ks2⟩ := K2
        simp only [Nd.val] at hg
        simp only [Nd.kind] at HA2
        have HG := Lib.hid hg
        clear hg
        obtain ⟨g0, g1, g2, g3, g4, g5, g6, g7, g8, g9⟩ := hf2
        obtain ⟨h0, h1, h2, h3, h4, h5, h6, h7, h8, h9⟩ := hf1
        clear g1 g2 g3 g4 g5 g6 g7 g8 g9
        simp only [Nat.reduceMul, Nat.reduceAdd, Nat.one_mul] at g0 h0 h1 h2 h3 h4 h5 h6 h7 h8 h9
        simp only [List.length_cons, List.length_nil, Nat.reduceAdd, Nat.zero_add] at *
        cases hz : (k2 != 0)
        · have HA3 : Hid (AM = false) := Lib.hid (by rw [HA2.out, show (k2 == 0) = true by simpa using hz]; rfl)
          clear HA2
          go_wp2_with fail
          go_meet
          exact ⟨by rw [HA3.out]; rfl, Below.refl _ _⟩
        · have HA3 : Hid (AM = DV) := Lib.hid (by rw [HA2.out, show (k2 == 0) = false by simpa using hz]; rfl)
          clear HA2
          go_wp2_with (refine (HG.out _ (Below.refl _ _)).mono ?_; rintro e w3 ⟨rfl, hb3⟩)
          go_meet
          exact ⟨by rw [HA3.out]; rfl, hb3⟩
  case rest =>
  obtain ⟨rfl, hb6⟩ := hcut
  rename World => W6
  replace FX := FX.below hb6
  replace BX := BX.trans (hb6.mono BX.size)
  have hw6 : W5.heap.size ≤ W6.heap.size := hb6.size
  clear HHg HIF HAM
  go_upto_if 91 with fail
  go_cut [] (fun wx => (∃ L, M = some L ∧ AM = false) ∧ W6 = wx)
  case first =>
    as_aux_lemma =>
    clear HML HM45 HO HT
    cases M
    case none =>
      have HR2 := Lib.hid (HW.out.2.2.2.2.1 rfl rfl rfl rfl rfl)
      clear HW
      simp only [Option.isSome, Bool.not_false, Bool.true_or]
      go_wp2_with fail
      go_ret
      exact ⟨by rw [HR2.out]; rfl, BX⟩
    case some L =>
    simp only [Option.isSome, Bool.not_true, Bool.false_or]
    cases AM
    case true =>
      have HR2 := Lib.hid (HW.out.2.2.2.2.2.1 rfl rfl rfl rfl rfl rfl)
      clear HW
      go_wp2_with fail
      go_ret
      exact ⟨by rw [HR2.out]; rfl, BX⟩
    case false =>
      clear HW
      go_wp2_with fail
      go_meet
      exact ⟨⟨_, rfl, by first | rfl | trivial⟩, by first | rfl | trivial⟩
  case rest =>
  obtain ⟨⟨L, rfl, rfl⟩, rfl⟩ := hcut
  have HR2 := Lib.hid (HW.out.2.2.2.2.2.2 L rfl rfl rfl rfl rfl rfl)
  have hLl : L.length = ks.length := HML.out L rfl
  have HL45 := Lib.hid (HM45.out L rfl)
  have HOL := Lib.hid ((HO.out L rfl).below hb6)
  have HN45 : Hid (∀ x ∈ narL (m : Int) c L, x ≠ 45) := Lib.hid (fun x hx => by
    obtain ⟨j, hj, rfl⟩ := List.getElem_of_mem hx
    rw [narL_len] at hj
    rw [narL_at _ _ _ j hj]
    split
    · decide
    · exact HL45.out _ (List.getElem_mem hj))
  have HNA : Hid (∀ j (h : j < L.length) (h' : j < (narL (m : Int) c L).length), (narL (m : Int) c L)[j] = if (((j : Int) == 0) && selK (m : Int) || ((m : Int) == 114 && c == 116)) = true then 116 else L[j]) := Lib.hid (fun j h h' => by
    rw [narL_at _ _ _ j h, dec_int])
  have HNL : Hid ((narL (m : Int) c L).length = L.length) := Lib.hid (narL_len _ _ _)
  have HSK : Hid (selK (m : Int) = ((m : Int) == 80 || ((m : Int) == 81 || ((m : Int) == 82 || (m : Int) == 83)))) := Lib.hid rfl
  clear HW HML HM45 HO hb6 HL45
  generalize narL (m : Int) c L = NL at *
  generalize selK (m : Int) = SK at *
  as_aux_lemma =>
  have c9 := FX.c9
  have HLl := Lib.hid hLl
  clear hLl
  go_wp2_with fail
  go_loopw [95] (fun i wr => ∃ j : Nat, j ≤ ks.length ∧ i = .int .i64 (j : Int) ∧ Below W6.heap.size W6 wr ∧ Hid (R = kidsE (chkN d) SK j (ks.drop j) (NL.drop j))) (fun i _ => ks.length - (intOf i).toNat)
  case atStart => exact ⟨0, Nat.zero_le _, rfl, Below.refl _ _, Lib.hid (by simpa using HR2.out)⟩
  case round =>
    as_aux_lemma =>
    obtain ⟨j, hj, rfl, hlo, HRJ⟩ := hrel
    rename World => WR
    clear HR2 c9
    have BR := BX.trans (hlo.mono BX.size)
    by_cases hlt : j < ks.length
    · have hlL : j < L.length := by have := HLl.out; omega
      have hlt2 : j < NL.length := by have := HNL.out; omega
      have hne : ks ≠ [] := by rintro rfl; simp at hlt
      obtain ⟨b, o, ha, hf⟩ := (hrow.out).2 hne
      subst ha
      have hf := (hf j hlt).below BR
      have HK : Hid ((ks[j]).kind ≠ 0 → ∀ wq, Below WR.heap.size WR wq → Calls Try.prog 11 #[.slice (some ⟨gt, 0, none⟩) 122 ct, (ks[j]).val, .string (bs [NL[j]])] wq fun e w' => e = .returned (.int .i64 (chkN d ks[j] NL[j])) ∧ Below wq.heap.size wq w') := Lib.hid (fun hk wq hb =>
        IH.out ks[j] (Nat.le_trans (depL_mem (List.getElem_mem hlt)) hdd) (by have := cntL_mem (List.getElem_mem hlt); omega) (hun.out _ (List.getElem_mem hlt)) hk NL[j] (HN45.out _ (List.getElem_mem hlt2)) gt ct hct wq ((HT.out.below BR).below hb) (((hall.out _ (List.getElem_mem hlt)).keep BR).keep hb))
      obtain ⟨gp, cp, hvv, hcp, hpl⟩ := (HOL.out.below hlo).at (by rw [List.length_map]; omega)
      have cj := hpl j (by rw [List.length_map]; exact hlL)
      rw [List.getElem_map] at cj
      rw [List.length_map] at hvv
      subst hvv
      have HCB : Hid (∀ X, (((j : Int) == 0) && SK || ((m : Int) == 114 && c == 116)) = X → bs [NL[j]] = if X = true then ⟨#[116]⟩ else oneB L[j]) := Lib.hid (fun X hX => by
        rw [HNA.out j hlL hlt2, hX]
        cases X <;> rfl)
      have HWy := Lib.hid (kids_ways (chkN d) SK j ks NL hlt hlt2 R HRJ.out)
      clear HRJ hne hcp hpl HN45 HNA
      generalize chkN d ks[j] NL[j] = KE at *
      generalize bs [NL[j]] = CB at *
      generalize oneB L[j] = PB at *
      generalize hNE : nonE ks[j] = NE at *
      have HNE := Lib.hid hNE
      clear hNE
      generalize ks[j] = K at *
      obtain ⟨k', l', co', nm', tx', n', v', x', s', a', cap', ks'⟩ := K
      obtain ⟨h0, h1, h2, h3, h4, h5, h6, h7, h8, h9⟩ := hf
      have HNE2 : Hid ((!nm'.toList.isEmpty || (!tx'.toList.isEmpty || (!(n' == 0 && (v' == 0 && x' == 0)) || (s' || decide (0 < ks'.length))))) = NE) := HNE
      have hK : k' ≠ 0 → ∀ wq, Below WR.heap.size WR wq → Calls Try.prog 11 #[.slice (some ⟨gt, 0, none⟩) 122 ct, .agg #[.int .i64 k', .int .i64 l', .int .i64 co', .string nm', .string tx', .int .i64 n', .int .u64 v', .int .u64 x', .bool s', .slice a' ks'.length cap'], .string CB] wq fun e w' => e = .returned (.int .i64 KE) ∧ Below wq.heap.size wq w' := HK.out
      have HKC := Lib.hid hK
      have hWz : (k' = 0 → NE = true → R = 4) ∧ (k' = 0 → NE = false → R = kidsE (chkN d) SK (j + 1) (ks.drop (j + 1)) (NL.drop (j + 1))) ∧ (k' ≠ 0 → (((j : Int) == 0) && SK && (k' == 114)) = true → R = 8) ∧ (k' ≠ 0 → (((j : Int) == 0) && SK && (k' == 114)) = false → KE ≠ 0 → R = KE) ∧ (k' ≠ 0 → (((j : Int) == 0) && SK && (k' == 114)) = false → KE = 0 → R = kidsE (chkN d) SK (j + 1) (ks.drop (j + 1)) (NL.drop (j + 1))) := HWy.out
      have HWz := Lib.hid hWz
      clear HNE HK hK HWy hWz
      have NR := FX.below hlo
      obtain ⟨W8, hW8⟩ : ∃ W, W = WR.alloc (.cells #[.int .i64 k', .int .i64 l', .int .i64 co', .string nm', .string tx', .int .i64 n', .int .u64 v', .int .u64 x', .bool s', .slice a' ks'.length cap'] 34) := ⟨_, rfl⟩
      have b8 : Below WR.heap.size WR W8 := by rw [hW8]; exact (Below.refl _ _).alloc (Nat.le_refl _) _
      have N8 : NB W8 WR.heap.size k' l' co' nm' tx' n' v' x' s' a' ks'.length cap' := by rw [hW8]; exact ⟨by go_simp, by go_simp, by go_simp, by go_simp, by go_simp, by go_simp, by go_simp, by go_simp, by go_simp, by go_simp⟩
      have T8 := NR.below b8
      have cj8 := ((Below.cell b8 (p := ⟨gp, j, none⟩) (World.block_lt_of_cell? WR _ cj))).trans cj
      have hjl : (j : Int) < (ks.length : Int) := by omega
      have hjn : (j : Int) < (L.length : Int) := by omega
      have hj0 : (0 : Int) ≤ (j : Int) := by omega
      clear cj NR
      go_upto_region 14 with fail
      rw [← hW8]
      clear hW8 h0 h1 h2 h3 h4 h5 h6 h7 h8 h9
      go_upto_region 15 with fail
      go_cut [13] (fun sv wx => sv = .bool (((j : Int) == 0) && SK) ∧ W8 = wx)
      case first =>
        as_aux_lemma =>
        obtain ⟨c0, c1, c2, c3, c4, c5, c6, c7, c8, c9⟩ := id T8
        clear cj8 N8 HWz HCB HKC HNE2
        cases hjb : ((j : Int) == 0)
        · go_wp2_with fail
          go_meet
          exact ⟨by rw [hjb]; rfl, rfl⟩
        · cases e80 : ((m : Int) == 80)
          · cases e81 : ((m : Int) == 81)
            · cases e82 : ((m : Int) == 82)
              · cases e83 : ((m : Int) == 83)
                all_goals
                  go_wp2_with fail
                  go_meet
                  exact ⟨by rw [HSK.out, hjb, e80, e81, e82, e83]; rfl, rfl⟩
              · go_wp2_with fail
                go_meet
                exact ⟨by rw [HSK.out, hjb, e80, e81, e82]; rfl, rfl⟩
            · go_wp2_with fail
              go_meet
              exact ⟨by rw [HSK.out, hjb, e80, e81]; rfl, rfl⟩
          · go_wp2_with fail
            go_meet
            exact ⟨by rw [HSK.out, hjb, e80]; rfl, rfl⟩
      case rest =>
      obtain ⟨rfl, rfl⟩ := hcut
      generalize (((j : Int) == 0) && SK) = SEL at *
      go_upto_block 3 with fail
      go_cut [12] (fun x wx => x = .string CB ∧ (k' ≠ 0 ∧ (SEL && (k' == 114)) = false) ∧ W8 = wx)
      case first =>
        as_aux_lemma =>
        clear HKC
        obtain ⟨d0, d1, d2, d3, d4, d5, d6, d7, d8, d9⟩ := id N8
        have c0 := T8.c0
        go_upto_region 16 with fail
        go_cut [126] (fun sv wx => sv = .bool (k' == 0 && NE) ∧ W8 = wx)
        case first =>
          as_aux_lemma =>
          clear HWz HCB
          cases hk0 : (k' == 0)
          · go_wp2_with fail
            go_meet
            exact ⟨by rw [hk0]; rfl, rfl⟩
          · cases a1 : nm'.toList.isEmpty
            · have HN : Hid (NE = true) := Lib.hid (by rw [← HNE2.out, a1]; rfl)
              go_wp2_with fail
              go_meet
              exact ⟨by rw [hk0, HN.out]; rfl, rfl⟩
            · cases a2 : tx'.toList.isEmpty
              · have HN : Hid (NE = true) := Lib.hid (by rw [← HNE2.out, a1, a2]; rfl)
                go_wp2_with fail
                go_meet
                exact ⟨by rw [hk0, HN.out]; rfl, rfl⟩
              · cases a3 : (n' == 0)
                · have HN : Hid (NE = true) := Lib.hid (by rw [← HNE2.out, a1, a2, a3]; rfl)
                  go_wp2_with fail
                  go_meet
                  exact ⟨by rw [hk0, HN.out]; rfl, rfl⟩
                · cases a4 : (v' == 0)
                  · have HN : Hid (NE = true) := Lib.hid (by rw [← HNE2.out, a1, a2, a3, a4]; rfl)
                    go_wp2_with fail
                    go_meet
                    exact ⟨by rw [hk0, HN.out]; rfl, rfl⟩
                  · cases a5 : (x' == 0)
                    · have HN : Hid (NE = true) := Lib.hid (by rw [← HNE2.out, a1, a2, a3, a4, a5]; rfl)
                      go_wp2_with fail
                      go_meet
                      exact ⟨by rw [hk0, HN.out]; rfl, rfl⟩
                    · cases s'
                      · by_cases hl0 : 0 < ks'.length
                        · have hli : (0 : Int) < (ks'.length : Int) := by omega
                          have HN : Hid (NE = true) := Lib.hid (by rw [← HNE2.out, a1, a2, a3, a4, a5, decide_eq_true hl0]; rfl)
                          have HD := Lib.hid (decide_eq_true hl0)
                          clear hl0
                          go_wp2_with fail
                          go_meet
                          exact ⟨by first | (rw [hk0, HN.out, HD.out]; rfl) | (rw [hk0, HN.out]; rfl), rfl⟩
                        · have hli : ¬ (0 : Int) < (ks'.length : Int) := by omega
                          have HN : Hid (NE = false) := Lib.hid (by rw [← HNE2.out, a1, a2, a3, a4, a5, decide_eq_false hl0]; rfl)
                          have HD := Lib.hid (decide_eq_false hl0)
                          clear hl0
                          go_wp2_with fail
                          go_meet
                          exact ⟨by first | (rw [hk0, HN.out, HD.out]; rfl) | (rw [hk0, HN.out]; rfl), rfl⟩
                      · have HN : Hid (NE = true) := Lib.hid (by rw [← HNE2.out, a1, a2, a3, a4, a5]; rfl)
                        go_wp2_with fail
                        go_meet
                        exact ⟨by rw [hk0, HN.out]; rfl, rfl⟩
        case rest =>
        obtain ⟨rfl, rfl⟩ := hcut
        clear d1 d2 d3 d4 d5 d6 d7 d8 d9 HNE2
        cases hk0 : (k' == 0)
        case true =>
          simp only [Bool.true_and]
          have hkz : k' = 0 := by simpa using hk0
          cases NE
          · have HR8 := Lib.hid (HWz.out.2.1 hkz rfl)
            clear HWz hkz HCB
            go_wp2_with fail
            go_roundw
            case rel => exact ⟨j + 1, hlt, by go_num, hlo.trans (b8.mono hlo.size), HR8⟩
            case measure => simp [intOf] <;> omega
          · have HR8 := Lib.hid (HWz.out.1 hkz rfl)
            clear HWz hkz HCB
            go_wp2_with fail
            exact bodyPost_ret (v := .int .i64 4) (by simp [results, Try.results11, go_sem]) rfl ⟨by rw [HR8.out], BR.trans (b8.mono BR.size)⟩
        case false =>
        as_aux_lemma =>
        simp only [Bool.false_and]
        have hkz := Lib.hid (show k' ≠ 0 by simpa using hk0)
        go_upto_region 19 with fail
        cases h8 : (SEL && (k' == 114))
        case true =>
          have HR8 := Lib.hid (HWz.out.2.2.1 hkz.out h8)
          obtain ⟨rfl, h114⟩ : SEL = true ∧ (k' == 114) = true := by simpa using h8
          clear HWz h8 HCB
          go_wp2_with fail
          exact bodyPost_ret (v := .int .i64 8) (by simp [results, Try.results11, go_sem]) rfl ⟨by rw [HR8.out], BR.trans (b8.mono BR.size)⟩
        case false =>
        have HC := HCB.out
        have hstr := u8_str c 116
        rw [HCS.out] at hstr
        clear HWz HCB
        cases SEL
        · clear h8
          cases e114 : ((m : Int) == 114)
          · have e := HC false (by rw [e114]; rfl)
            rw [if_neg (by decide)] at e
            subst e
            go_wp2_with fail
            go_meet
            exact ⟨rfl, ⟨hkz.out, rfl⟩, rfl⟩
          · generalize (c == 116) = C116 at *
            have e := HC C116 (by rw [e114]; simp)
            clear HC
            cases C116
            · rw [if_neg (by decide)] at e
              subst e
              go_wp2_with fail
              go_meet
              exact ⟨rfl, ⟨hkz.out, rfl⟩, rfl⟩
            · rw [if_pos rfl] at e
              subst e
              go_wp2_with fail
              go_meet
              exact ⟨rfl, ⟨hkz.out, rfl⟩, rfl⟩
        · have h8b : (k' == 114) = false := by simpa using h8
          have e := HC true (by simp)
          rw [if_pos rfl] at e
          subst e
          clear HC h8
          go_wp2_with fail
          go_meet
          exact ⟨rfl, ⟨hkz.out, by rw [h8b]; rfl⟩, rfl⟩
      case rest =>
      obtain ⟨rfl, ⟨hkz, h8⟩, rfl⟩ := hcut
      as_aux_lemma =>
      have HK2 := Lib.hid (HKC.out hkz)
      have HY1 := Lib.hid (HWz.out.2.2.2.1 hkz h8)
      have HY2 := Lib.hid (HWz.out.2.2.2.2 hkz h8)
      clear HWz HKC hkz h8 HNE2 HCB cj8 T8
      go_upto_region 23 with fail
      go_cut [14] (fun sv wx => sv = .int .i64 KE ∧ RowKit.Below W8.heap.size W8 wx)
      case first =>
        as_aux_lemma =>
        obtain ⟨d0, d1, d2, d3, d4, d5, d6, d7, d8, d9⟩ := id N8
        go_wp2_with (refine (HK2.out _ b8).mono ?_; rintro e w9 ⟨rfl, hb9⟩)
        go_meet
        exact ⟨rfl, hb9⟩
      case rest =>
      obtain ⟨rfl, hb9⟩ := hcut
      rename World => W9
      replace b8 := b8.trans (hb9.mono b8.size)
      clear N8 hb9 HK2
      cases hKE : (KE != 0)
      case true =>
        have HR8 := Lib.hid (HY1.out (by simpa using hKE))
        clear HY1 HY2
        go_wp2_with fail
        exact bodyPost_ret (v := .int .i64 KE) (by simp [results, Try.results11, go_sem]) rfl ⟨by rw [HR8.out], BR.trans (b8.mono BR.size)⟩
      case false =>
        have HR8 := Lib.hid (HY2.out (by simpa using hKE))
        clear HY1 HY2
        obtain rfl : KE = 0 := by simpa using hKE
        go_wp2_with fail
        go_roundw
        case rel => exact ⟨j + 1, hlt, by go_num, hlo.trans (b8.mono hlo.size), HR8⟩
        case measure => simp [intOf] <;> omega
    · obtain rfl : j = ks.length := by omega
      have HR8 : Hid (R = 0) := Lib.hid (by rw [HRJ.out, List.drop_length]; rfl)
      clear HRJ
      go_wp2_with fail
      go_ret
      exact ⟨by rw [HR8.out]; rfl, BR⟩
theorem fault_all : ∀ d, FaultTo d
  | 0 => fun T h => by obtain ⟨k, l, c, nm, tx, n, v, x, s, a, cap, ks⟩ := T; unfold Nd.dep at h; omega
  | d + 1 => fault_step d (fault_all d)
end Go.Proofs.Ytpjnjcljaoaceaa
