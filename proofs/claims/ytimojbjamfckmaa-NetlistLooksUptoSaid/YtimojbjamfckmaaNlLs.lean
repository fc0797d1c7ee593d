/- The law on Look: its walk. Asked: the fact. -/
import Derived.Test.YtimojbjamfckmaaNlU
namespace Go.Proofs.Ytimojbjamfckmaa
open Go Go.RowKit Go.Sort
set_option linter.unusedVariables false
set_option maxRecDepth 100000 in
set_option maxHeartbeats 4000000 in
theorem looks_law (hF : NfC) (t : BitVec 64) (l : List (BitVec 64)) (v : Value) (m : Nat) (hm : m < 256) (hn : l.length ≤ 4000000000) (w : World) (hR : RowC (fun b => Value.int .u64 (U b)) l v w) : Calls Try.prog 5 #[.int .u64 (U t), v, .int .u8 (m : Int)] w fun e w' => e = .returned (.bool true) ∧ Below w.heap.size w w' := by
  have HF := Lib.hid (fun W => hF W)
  clear hF
  have HI := Lib.hid (fun W (hb : Below w.heap.size w W) => hR.below hb)
  obtain ⟨ai, ci, rfl, hi1, hin, hi2⟩ := hR
  have H1 := Lib.hid (look_any t l (.slice ai l.length ci) hn w (RowOf.mk hi1 hi2))
  clear hi1 hi2 hin
  go_enter Try.func5, Try.ntmps5
  go_upto_region 2 with (first | (go_at_call 27; refine H1.out.mono ?_; rintro ee W1 ⟨rfl, hb1⟩))
  have bel := hb1
  clear H1 hb1
  by_cases q6 : 6 < l.length
  · have hx : lookW t l = 0#64 := if_pos q6
    have q7 : (6 : Int) < (l.length : Int) := by omega
    rw [hx]
    have hz : U 0#64 = 0 := rfl
    rw [hz]
    clear hx
    go_wp2_with (first | (go_at_call 15; refine (HF.out _).mono ?_; rintro ee w3 ⟨rfl, hb3⟩))
    go_ret
    exact ⟨rfl, bel.trans (hb3.mono bel.size)⟩
  have q7 : ¬ (6 : Int) < (l.length : Int) := by omega
  have hm2 : 0 ≤ (m : Int) := by omega
  have hm3 : (m : Int) < 256 := by omega
  have HK := Lib.hid (show ∀ k, k < 64 → (lookW t l).getLsbD k = t.getLsbD (numL k l) by
    intro k hk
    unfold lookW
    rw [if_neg q6, bitsW_get _ k hk, decide_eq_true hk, Bool.true_and])
  have HQ := Lib.hid q6
  clear q6
  generalize lookW t l = y at HK ⊢
  go_upto_block 0 with fail
  have hmm : (m : Int) % 64 = ((m % 64 : Nat) : Int) := by omega
  have hm64 : m % 64 < 64 := Nat.mod_lt _ (by decide)
  have bK : Below W1.heap.size W1 (W1.alloc (.cells #[.int .i64 0, .int .i64 ((m : Int) % 64), .int .i64 63] 3)) := (Below.refl _ W1).alloc (Nat.le_refl _) _
  have AK : Arr 3 (fun n : Int => Value.int .i64 n) W1.heap.size [0, (m : Int) % 64, 63] (W1.alloc (.cells #[.int .i64 0, .int .i64 ((m : Int) % 64), .int .i64 63] 3)) := ⟨by show (W1.heap.push _)[W1.heap.size]? = _; simp⟩
  replace bel := bel.trans (bK.mono bel.size)
  clear bK
  generalize W1.alloc (.cells #[.int .i64 0, .int .i64 ((m : Int) % 64), .int .i64 63] 3) = WA at AK bel ⊢
  generalize W1.heap.size = bs at AK ⊢
  rw [hmm] at AK
  clear hmm
  generalize m % 64 = kk at hm64 AK
  go_wp2_with fail
  go_loopw [29] (fun i wr => ∃ r : Nat, r ≤ 3 ∧ i = .int .i64 (r : Int) ∧ Hid (Below WA.heap.size WA wr)) (fun i _ => 3 - (intOf i).toNat)
  case atStart => exact ⟨0, by omega, rfl, Lib.hid (Below.refl _ _)⟩
  case round =>
    obtain ⟨r, hr, rfl, hB⟩ := hrel
    rename World => WR
    have hr0 : (0 : Int) ≤ (r : Int) := by omega
    have belR := bel.trans (hB.out.mono bel.size)
    by_cases hlt : r < 3
    · have hri : (r : Int) < 3 := by omega
      obtain ⟨kq, hk64, hkc⟩ : ∃ kq : Nat, kq < 64 ∧ WR.cell? ⟨bs, r, none⟩ = some (.int .i64 (kq : Int)) := by
        have hc := (AK.below hB.out).cell (j := r) (by simp; omega)
        match r, hlt, hc with
        | 0, _, hc => exact ⟨0, by omega, hc⟩
        | 1, _, hc => exact ⟨kk, hm64, hc⟩
        | 2, _, hc => exact ⟨63, by omega, hc⟩
      have HC1 := Lib.hid (columnW_any l (.slice ai l.length ci) kq hk64 hn WR (HI.out WR belR).row)
      go_upto_block 2 with (first | (go_at_call 28; refine HC1.out.mono ?_; rintro ee W2 ⟨vo, rfl, O2, hb2⟩; obtain ⟨ad2, cp2, hv2⟩ := O2.slice; subst hv2))
      have bel2 := belR.trans (hb2.mono belR.size)
      have hB2 := Lib.hid (hB.out.trans (hb2.mono hB.out.size))
      have HBits := Lib.hid (fun W (hb : Below W2.heap.size W2 W) => (O2.row).below hb)
      have HT := Lib.hid (fun j (hj : j < l.length) => numL_take kq l hj)
      have HNL := Lib.hid (fun j (hj : j ≤ l.length) => numL_bound kq l hj (by have := HQ.out; omega))
      clear O2 hb2 HC1 hkc hB
      go_wp2_with fail
      go_loopw [10, 37] (fun u i wr => ∃ j : Nat, j ≤ l.length ∧ u = .int .i64 ((numL kq (l.take j) : Nat) : Int) ∧ i = .int .i64 (j : Int) ∧ Hid (Below W2.heap.size W2 wr)) (fun _ i _ => l.length - (intOf i).toNat)
      case atStart => exact ⟨0, Nat.zero_le _, rfl, rfl, Lib.hid (Below.refl _ _)⟩
      case round =>
        obtain ⟨j, hj, rfl, rfl, hB⟩ := hrel
        rename World => WS
        have hj0 : (0 : Int) ≤ (j : Int) := by omega
        have hx64 := HNL.out j hj
        by_cases hlj : j < l.length
        · have hji : (j : Int) < (l.length : Int) := by omega
          have hj6 : j ≤ 5 := by omega
          have HTj := Lib.hid (HT.out j hlj)
          obtain ⟨ad3, cp3, e3, hc3, R3⟩ := (HBits.out _ hB.out).open'
          rw [List.length_map] at e3
          injection e3 with e31 e32 e33
          subst e31
          subst e33
          obtain ⟨b3, o3, hdd, hcell⟩ := R3.pick (by rw [List.length_map]; omega)
          subst hdd
          have c0 := hcell j (by rw [List.length_map]; exact hlj) 0 _ rfl
          simp only [Nat.mul_one, Nat.add_zero] at c0
          rw [getElem!_pos _ j (by rw [List.length_map]; exact hlj), List.getElem_map] at c0
          clear hcell R3 e32 hc3
          rw [getElem!_pos l j hlj] at HTj
          have hw6 : wrap64 (2 ^ j) = ((2 ^ j : Nat) : Int) ∧ 2 ^ j ≤ 32 := by
            have hc : j = 0 ∨ j = 1 ∨ j = 2 ∨ j = 3 ∨ j = 4 ∨ j = 5 := by omega
            rcases hc with rfl | rfl | rfl | rfl | rfl | rfl <;> exact ⟨by unfold wrap64; decide, by decide⟩
          obtain ⟨hw1, hw2⟩ := hw6
          generalize l[j].getLsbD kq = bb at c0 HTj
          generalize numL kq (l.take j) = x at hx64 HTj
          cases bb with
          | true =>
            have HX := Lib.hid (show x + 2 ^ j = numL kq (l.take (j + 1)) by rw [HTj.out]; rfl)
            clear HTj
            have hw3 : wrap64 ((x : Int) + 2 ^ j) = ((x + 2 ^ j : Nat) : Int) := by
              have : ((2 : Int) ^ j) = ((2 ^ j : Nat) : Int) := by push_cast; rfl
              rw [this]; generalize 2 ^ j = p at hw2 ⊢; unfold wrap64; omega
            go_upto_region 13 with fail
            rw [hw3]
            have hx2 : x + 2 ^ j < 128 := by omega
            clear hw1 hw2 hw3
            rw [HX.out] at hx2 ⊢
            go_wp2_with fail
            go_roundw
            case rel => exact ⟨j + 1, by omega, rfl, by go_num, hB⟩
            all_goals first | done | (simp [intOf]; done) | (simp [intOf]; omega)
          | false =>
            have HX := Lib.hid (show x = numL kq (l.take (j + 1)) by rw [HTj.out]; rfl)
            clear HTj hw1 hw2
            go_wp2_with fail
            go_roundw
            case rel => exact ⟨j + 1, by omega, (by rw [HX.out]), by go_num, hB⟩
            all_goals first | done | (simp [intOf]; done) | (simp [intOf]; omega)
        · have hji : ¬ (j : Int) < (l.length : Int) := by omega
          have hjl : j = l.length := by omega
          have HE := Lib.hid (show numL kq (l.take j) = numL kq l by rw [hjl, List.take_length])
          have he : y >>> kq &&& 1#64 = t >>> numL kq (l.take j) &&& 1#64 := by
            rw [bit_one, bit_one, HE.out, HK.out kq hk64]
          clear hjl
          have HB9 := Lib.hid (hB2.out.trans (hB.out.mono hB2.out.size))
          clear hB
          generalize numL kq (l.take j) = x at he hx64
          go_upto_region 14 with fail
          refine wp_region_rel 9 (by kernel_rfl) (by kernel_rfl) ?_
          simp only [List.take_succ_cons, List.take_zero, List.drop_succ_cons, List.drop_zero]
          (refine rel_fix0 (fun K hK => ?_); go_simp; refine hK _ ?_; clear hK K)
          (refine rel_fix0 (fun K hK => ?_); go_simp; refine hK _ ?_; clear hK K)
          (refine rel_fix0 (fun K hK => ?_); go_simp; refine hK _ ?_; clear hK K)
          (refine rel_fix0 (fun K hK => ?_); go_simp; refine hK _ ?_; clear hK K)
          (refine rel_fix0 (fun K hK => ?_); go_simp; refine hK _ ?_; clear hK K)
          (refine rel_fix0 (fun K hK => ?_); go_simp; refine hK _ ?_; clear hK K)
          (refine rel_fix0 (fun K hK => ?_); go_simp; refine hK _ ?_; clear hK K)
          (refine rel_fix0 (fun K hK => ?_); go_simp; refine hK _ ?_; clear hK K)
          (refine rel_fix0 (fun K hK => ?_); go_simp; refine hK _ ?_; clear hK K)
          refine rel_nil ?_
          intro d os
          simp only [relAll]
          have HB8 := Lib.hid (HB9.out.trans ((below_regrown WS d os).mono HB9.out.size))
          generalize grow (redrawn WS d) os = W5 at HB8 ⊢
          clear he
          go_wp2_with fail
          go_roundw
          case rel => exact ⟨r + 1, by omega, by go_num, HB8⟩
          all_goals first | done | (simp [intOf]; done) | (simp [intOf]; omega)
    · have hri : ¬ (r : Int) < 3 := by omega
      go_wp2_with (first | (go_at_call 15; refine (HF.out _).mono ?_; rintro ee w3 ⟨rfl, hb3⟩))
      go_ret
      exact ⟨rfl, belR.trans (hb3.mono belR.size)⟩
end Go.Proofs.Ytimojbjamfckmaa
