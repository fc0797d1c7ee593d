/- Equal trees: the reference's SameTree. -/
import Derived.Test.YtkgikienfdgmfaaSySame
import Derived.Lib.QuietBelow
namespace Go.Proofs.Ytkgikienfdgmfaa
open Go Go.RowKit Go.Sort
set_option linter.unusedVariables false
set_option maxRecDepth 100000 in
set_option maxHeartbeats 4000000 in
theorem tree_step {d : Nat} (ih : SameTo 7 d) : SameTo 7 (d + 1) := by
  intro A B hd hc w hA hB
  obtain ⟨k, l, c, nm, tx, n, v, x, s, a, cap, ks⟩ := A
  obtain ⟨k', l', c', nm', tx', n', v', x', s', a', cap', ks'⟩ := B
  have hdd : depL ks ≤ d := by unfold Nd.dep at hd; omega
  have hcc : cntL ks ≤ 4000000000000 := by unfold Nd.cnt at hc; omega
  have hl1 := len_cntL ks
  have IH := Lib.hid ih
  have HA := Lib.hid hA
  have HB := Lib.hid hB
  clear ih hd hc hA hB
  simp only [Nd.val]
  obtain ⟨V, HV⟩ : ∃ V, Hid (sameL ks ks' = V) := ⟨_, Lib.hid rfl⟩
  by_cases h1 : k = k' ∧ nm = nm' ∧ tx = tx' ∧ n = n' ∧ v = v' ∧ x = x' ∧ s = s'
  · obtain ⟨rfl, rfl, rfl, rfl, rfl, rfl, rfl⟩ := h1
    rw [same_yes, HV.out]
    by_cases hlen : ks.length = ks'.length
    · have HL := Lib.hid hlen
      obtain ⟨N, hN⟩ : ∃ N, ks.length = N := ⟨_, rfl⟩
      have hN' : ks'.length = N := by omega
      rw [hN, hN']
      have HN1 := Lib.hid hN
      have HN2 := Lib.hid hN'
      rw [hN] at hl1
      clear hlen hN hN'
      go_enter Try.func7, Try.ntmps7
      go_wp2_with fail
      obtain ⟨W1, hW1⟩ : ∃ W, W = ((w.alloc (.cells #[.int .i64 k, .int .i64 l, .int .i64 c, .string nm, .string tx, .int .i64 n, .int .u64 v, .int .u64 x, .bool s, .slice a N cap] 27)).alloc (.cells #[.int .i64 k, .int .i64 l', .int .i64 c', .string nm, .string tx, .int .i64 n, .int .u64 v, .int .u64 x, .bool s, .slice a' N cap'] 27)) := ⟨_, rfl⟩
      have b0 : Below w.heap.size w W1 := by rw [hW1]; exact ((Below.refl _ _).alloc (Nat.le_refl _) _).alloc (by simp <;> omega) _
      have q0 : W1.cell? ⟨w.heap.size, 9, none⟩ = some (.slice a N cap) := by rw [hW1]; go_simp
      have q1 : W1.cell? ⟨w.heap.size + 1, 9, none⟩ = some (.slice a' N cap') := by rw [hW1]; go_simp
      have hs : w.heap.size + 2 ≤ W1.heap.size := by rw [hW1]; simp
      rw [← hW1]
      clear hW1
      have HA1 := Lib.hid (HA.out.keep b0)
      have HB1 := Lib.hid (HB.out.keep b0)
      clear HA HB
      obtain ⟨ws, hws⟩ : ∃ ws, w.heap.size = ws := ⟨_, rfl⟩
      rw [hws] at b0 q0 q1 hs ⊢
      have HWS := Lib.hid hws
      clear hws
      go_loopw [51] (fun i wr => ∃ j : Nat, j ≤ N ∧ i = .int .i64 (j : Int) ∧ Below W1.heap.size W1 wr ∧ Hid (∀ q (h : q < ks.length) (h' : q < ks'.length), q < j → same ks[q] ks'[q] = true)) (fun i _ => N - (intOf i).toNat)
      case atStart => exact ⟨0, Nat.zero_le _, rfl, Below.refl _ _, Lib.hid (fun q _ _ h => absurd h (Nat.not_lt_zero q))⟩
      case round =>
        obtain ⟨j, hj, rfl, hlo, HS⟩ := hrel
        rename World => WR
        have r0 : WR.cell? ⟨ws, 9, none⟩ = some (.slice a N cap) := (hlo.cell (p := ⟨ws, 9, none⟩) (by show ws < _; omega)).trans q0
        have r1 : WR.cell? ⟨ws + 1, 9, none⟩ = some (.slice a' N cap') := (hlo.cell (p := ⟨ws + 1, 9, none⟩) (by show ws + 1 < _; omega)).trans q1
        have hW := hlo.size
        clear q0 q1
        by_cases hjn : j < N
        · have hlt : j < ks.length := by have := HN1.out; omega
          have hlt' : j < ks'.length := by have := HN2.out; omega
          have hA := HA1.out.keep hlo
          have hB := HB1.out.keep hlo
          obtain ⟨hcap, hrr⟩ := hA.row
          obtain ⟨hcap', hrr'⟩ := hB.row
          obtain ⟨b, o, rfl, hf⟩ := hrr (by rintro rfl; simp at hlt)
          obtain ⟨b', o', rfl, hf'⟩ := hrr' (by rintro rfl; simp at hlt')
          have hf := (hf j hlt)
          have hf' := (hf' j hlt')
          have hin := (hA.all _ (List.getElem_mem hlt))
          have hin' := (hB.all _ (List.getElem_mem hlt'))
          have hcm := cntL_mem (List.getElem_mem hlt)
          have hdm := depL_mem (List.getElem_mem hlt)
          have hcall := fun wq (hb : Below WR.heap.size WR wq) => IH.out ks[j] ks'[j] (Nat.le_trans hdm hdd) (by omega) wq (hin.keep hb) (hin'.keep hb)
          have HNo : Hid (same ks[j] ks'[j] = false → V = false) := Lib.hid (fun h => by rw [← HV.out]; exact sameL_not j hlt hlt' h)
          have HS2 : Hid (same ks[j] ks'[j] = true → ∀ q (h : q < ks.length) (h' : q < ks'.length), q < j + 1 → same ks[q] ks'[q] = true) := Lib.hid (fun h q h1 h2 h3 => by
            by_cases hq : q < j
            · exact HS.out q h1 h2 hq
            · obtain rfl : q = j := by omega
              exact h)
          clear HS hin hin' hcm hdm hrr hrr' HA1 HB1 hA hB IH
          generalize hv : same ks[j] ks'[j] = R at *
          generalize ks[j] = K at *
          generalize ks'[j] = K' at *
          obtain ⟨k1, l1, c1, nm1, tx1, n1, v1, x1, s1, a1, cap1, ks1⟩ := K
          obtain ⟨k2, l2, c2, nm2, tx2, n2, v2, x2, s2, a2, cap2, ks2⟩ := K'
          simp only [Nd.val] at hcall
          have HC := Lib.hid hcall
          clear hcall hv
          obtain ⟨g0, g1, g2, g3, g4, g5, g6, g7, g8, g9⟩ := hf
          obtain ⟨f0, f1, f2, f3, f4, f5, f6, f7, f8, f9⟩ := hf'
          have hjl : (j : Int) < (N : Int) := by omega
          have hj0 : (0 : Int) ≤ (j : Int) := by omega
          have hbl : b < WR.heap.size := World.block_lt_of_cell? WR _ g0
          have hbl' : b' < WR.heap.size := World.block_lt_of_cell? WR _ f0
          clear hlt hlt' hcap hcap'
          have cc : ∀ dd os, Calls Try.prog 7 #[_, _] (grow (redrawn WR dd) os) fun e w'' => e = .returned (.bool R) ∧ ∃ p : Regrown, w'' = grow (redrawn WR p.d) p.os := fun dd os => Calls.regrown_of (HC.out _ (below_regrown WR dd os))
          have G0 := cell_regrown g0
          have G1 := cell_regrown g1
          have G2 := cell_regrown g2
          have G3 := cell_regrown g3
          have G4 := cell_regrown g4
          have G5 := cell_regrown g5
          have G6 := cell_regrown g6
          have G7 := cell_regrown g7
          have G8 := cell_regrown g8
          have G9 := cell_regrown g9
          have F0 := cell_regrown f0
          have F1 := cell_regrown f1
          have F2 := cell_regrown f2
          have F3 := cell_regrown f3
          have F4 := cell_regrown f4
          have F5 := cell_regrown f5
          have F6 := cell_regrown f6
          have F7 := cell_regrown f7
          have F8 := cell_regrown f8
          have F9 := cell_regrown f9
          have R0 := cell_regrown r0
          have R1 := cell_regrown r1
          go_upto_region 6 with fail
          refine wp_region_quiet_below (by kernel_rfl) (by kernel_rfl) ?_
          repeat (quiet_step (first | (with_reducible exact cc _ _)))
          refine wpQuiet_nil ?_
          intro _ hw'
          obtain ⟨⟨dq, osq⟩, hw''⟩ := hw'
          subst hw''
          clear G0 G1 G2 G3 G4 G5 G6 G7 G8 G9 F0 F1 F2 F3 F4 F5 F6 F7 F8 F9 R0 R1 cc HC g0 g1 g2 g3 g4 g5 g6 g7 g8 g9 f0 f1 f2 f3 f4 f5 f6 f7 f8 f9 r0 r1
          have hbq := below_regrown WR dq osq
          generalize grow (redrawn WR dq) osq = W3 at hbq ⊢
          cases R
          · have HVF : Hid (V = false) := Lib.hid (HNo.out rfl)
            go_wp2_with fail
            exact bodyPost_ret (v := .bool false) (by simp [results, Try.results7, go_sem]) rfl ⟨by rw [HVF.out], by rw [HWS.out]; exact (b0.trans (hlo.mono (by omega))).trans (hbq.mono (by omega))⟩
          · have HST := Lib.hid (HS2.out rfl)
            go_wp2_with fail
            go_round
            case rel => exact ⟨j + 1, hjn, rfl, hlo.trans (hbq.mono hW), HST⟩
            case measure => simp [intOf] <;> omega
        · obtain rfl : j = N := by omega
          have HT : Hid (V = true) := Lib.hid (by rw [← HV.out]; exact sameL_all HL.out (fun q h h' => HS.out q h h' (by rw [← HN1.out]; exact h)))
          go_wp2_with fail
          go_ret
          exact ⟨by rw [HT.out]; rfl, by rw [HWS.out]; exact b0.trans (hlo.mono (by omega))⟩
    · have hlen' : ¬ ((ks.length : Int) = (ks'.length : Int)) := by omega
      rw [sameL_len hlen] at HV
      have HVF : Hid (V = false) := Lib.hid HV.out.symm
      clear HV IH HA HB hlen
      rw [HVF.out]
      go_enter Try.func7, Try.ntmps7
      go_wp2_with fail
      go_ret
      exact ⟨rfl, ((Below.refl _ _).alloc (Nat.le_refl _) _).alloc (by simp <;> omega) _⟩
  · rw [same_no h1]
    clear IH HA HB HV hcc hdd hl1
    by_cases e0 : k = k'
    · subst e0
      by_cases e1 : nm = nm'
      · subst e1
        by_cases e2 : tx = tx'
        · subst e2
          by_cases e3 : n = n'
          · subst e3
            by_cases e4 : v = v'
            · subst e4
              by_cases e5 : x = x'
              · subst e5
                by_cases e6 : s = s'
                · subst e6
                  exact absurd ⟨rfl, rfl, rfl, rfl, rfl, rfl, rfl⟩ h1
                · clear h1
                  go_enter Try.func7, Try.ntmps7
                  go_wp2_with fail
                  go_ret
                  exact ⟨rfl, ((Below.refl _ _).alloc (Nat.le_refl _) _).alloc (by simp <;> omega) _⟩
              · clear h1
                go_enter Try.func7, Try.ntmps7
                go_wp2_with fail
                go_ret
                exact ⟨rfl, ((Below.refl _ _).alloc (Nat.le_refl _) _).alloc (by simp <;> omega) _⟩
            · clear h1
              go_enter Try.func7, Try.ntmps7
              go_wp2_with fail
              go_ret
              exact ⟨rfl, ((Below.refl _ _).alloc (Nat.le_refl _) _).alloc (by simp <;> omega) _⟩
          · clear h1
            go_enter Try.func7, Try.ntmps7
            go_wp2_with fail
            go_ret
            exact ⟨rfl, ((Below.refl _ _).alloc (Nat.le_refl _) _).alloc (by simp <;> omega) _⟩
        · clear h1
          have e2 := ne_toList e2
          go_enter Try.func7, Try.ntmps7
          go_wp2_with fail
          go_ret
          exact ⟨rfl, ((Below.refl _ _).alloc (Nat.le_refl _) _).alloc (by simp <;> omega) _⟩
      · clear h1
        have e1 := ne_toList e1
        go_enter Try.func7, Try.ntmps7
        go_wp2_with fail
        go_ret
        exact ⟨rfl, ((Below.refl _ _).alloc (Nat.le_refl _) _).alloc (by simp <;> omega) _⟩
    · clear h1
      go_enter Try.func7, Try.ntmps7
      go_wp2_with fail
      go_ret
      exact ⟨rfl, ((Below.refl _ _).alloc (Nat.le_refl _) _).alloc (by simp <;> omega) _⟩
theorem tree_any (A B : Nd) (hc : A.cnt ≤ 4000000000000) (w : World) (hA : Nin w A) (hB : Nin w B) : Calls Try.prog 7 #[A.val, B.val] w fun e w' => e = .returned (.bool (same A B)) ∧ Below w.heap.size w w' := by
  have H : ∀ d, SameTo 7 d := fun d => by
    induction d with
    | zero =>
      intro A B h _ w _ _
      obtain ⟨k, l, c, nm, tx, n, v, x, s, a, cap, ks⟩ := A
      unfold Nd.dep at h; omega
    | succ d ih => exact tree_step ih
  exact H A.dep A B (Nat.le_refl _) hc w hA hB
end Go.Proofs.Ytkgikienfdgmfaa
