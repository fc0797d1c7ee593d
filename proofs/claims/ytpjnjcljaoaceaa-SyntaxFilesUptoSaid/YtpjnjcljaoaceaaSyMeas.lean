/- The size of a tree: the program's Measure, the reference's Weigh. -/
import Derived.Test.YtpjnjcljaoaceaaSyTree
import Derived.LoopTactic
import Derived.Deep.CutBlock
namespace Go.Proofs.Ytpjnjcljaoaceaa
open Go Go.RowKit
set_option linter.unusedVariables false
set_option maxRecDepth 100000 in
set_option maxHeartbeats 2000000 in
theorem measure_any : ∀ (d : Nat) (T : Nd), T.dep ≤ d → T.cnt ≤ 4000000000000 → ∀ w, Nin w T → Calls Try.prog 14 #[T.val] w fun e w' => e = .returned (.tuple #[.int .i64 T.cnt, .int .i64 T.dep]) ∧ Below w.heap.size w w' := by
  intro d
  induction d with
  | zero =>
    intro T h _ w hT
    obtain ⟨k, l, c, nm, tx, n, v, x, s, a, cap, ks⟩ := T
    unfold Nd.dep at h; omega
  | succ d ih =>
    intro T hd hc w hT
    obtain ⟨k, l, c, nm, tx, n, v, x, s, a, cap, ks⟩ := T
    have hrow := Lib.hid hT.row
    have hall := Lib.hid hT.all
    have hdd : depL ks ≤ d := by unfold Nd.dep at hd; omega
    have hcc : 1 + cntL ks ≤ 4000000000000 := by unfold Nd.cnt at hc; exact hc
    have hl1 := len_cntL ks
    have hl2 := depL_le ks
    have HV : Hid (Ending.returned (Value.tuple #[.int .i64 (Nd.mk k l c nm tx n v x s a cap ks).cnt, .int .i64 (Nd.mk k l c nm tx n v x s a cap ks).dep]) = .returned (.tuple #[.int .i64 (1 + cntL ks : Nat), .int .i64 (depL ks + 1 : Nat)])) := Lib.hid (by unfold Nd.cnt Nd.dep; rfl)
    have IH := Lib.hid ih
    clear ih hd hc hT
    simp only [Nd.val]
    go_enter Try.func14, Try.ntmps14
    go_wp2_with fail
    have b0 : Below w.heap.size w (w.alloc (.cells (Nd.mk k l c nm tx n v x s a cap ks).cells 34)) := (Below.refl _ _).alloc (Nat.le_refl _) _
    simp only [Nd.cells] at b0
    generalize (w.alloc (.cells _ 34)) = W1 at b0 ⊢
    have hsz := b0.size
    go_loopw [4, 5, 13] (fun p q i wr => ∃ j : Nat, j ≤ ks.length ∧ p = .int .i64 ((1 + cntL (ks.take j) : Nat) : Int) ∧ q = .int .i64 ((depL (ks.take j) : Nat) : Int) ∧ i = .int .i64 (j : Int) ∧ Below W1.heap.size W1 wr) (fun _ _ i _ => ks.length - (intOf i).toNat)
    case atStart => exact ⟨0, Nat.zero_le _, rfl, rfl, rfl, Below.refl _ _⟩
    case round =>
      obtain ⟨j, hj, rfl, rfl, rfl, hlo⟩ := hrel
      rename World => WR
      by_cases hlt : j < ks.length
      · have hne : ks ≠ [] := by rintro rfl; simp at hlt
        obtain ⟨hcap, hrr⟩ := hrow.out
        obtain ⟨b, o, ha, hf⟩ := hrr hne
        have hf := hf j hlt
        have hin := hall.out _ (List.getElem_mem hlt)
        have hcm := cntL_mem (List.getElem_mem hlt)
        have hdm := depL_mem (List.getElem_mem hlt)
        have ect := cntL_take ks j hlt
        have edt := depL_take ks j hlt
        have ecl := cntL_take_le ks (j + 1)
        have edl := depL_take_le ks (j + 1)
        have hin := hin.keep (b0.trans (hlo.mono hsz))
        have hf := hf.below (b0.trans (hlo.mono hsz))
        have hcall := fun wq (hb : Below WR.heap.size WR wq) => IH.out ks[j] (Nat.le_trans hdm hdd) (by omega) wq (hin.keep hb)
        generalize ks[j] = K at *
        obtain ⟨k', l', c', nm', tx', n', v', x', s', a', cap', ks'⟩ := K
        obtain ⟨h0, h1, h2, h3, h4, h5, h6, h7, h8, h9⟩ := hf
        subst ha
        clear hrr hne
        rw [ect] at ecl
        rw [edt] at edl
        simp only [Nd.val] at hcall
        generalize hkc : (Nd.mk k' l' c' nm' tx' n' v' x' s' a' cap' ks').cnt = KC at *
        generalize hkd : (Nd.mk k' l' c' nm' tx' n' v' x' s' a' cap' ks').dep = KD at *
        clear hkc hkd
        have HC := Lib.hid hcall
        clear hcall hrow hall hin IH
        have HE1 := Lib.hid ect
        have HE2 := Lib.hid edt
        clear ect edt
        have hjl : (j : Int) < (ks.length : Int) := by omega
        have hj0 : (0 : Int) ≤ (j : Int) := by omega
        generalize hC : cntL (ks.take j) = CJ at *
        generalize hD : depL (ks.take j) = DJ at *
        go_upto_region 5 with fail
        go_wp2_with (refine (HC.out _ ((Below.refl _ _).alloc (Nat.le_refl _) _)).mono ?_; rintro e w3 ⟨rfl, hb3⟩)
        have hW := hlo.size
        go_round
        case rel =>
          refine ⟨j + 1, hlt, congrArg _ (by rw [HE1.out]; omega), congrArg _ (by rw [HE2.out, Nat.max_def]; split <;> split <;> omega), rfl, (hlo.alloc hW _).trans (hb3.mono ?_)⟩
          simp <;> omega
        case measure => simp [intOf] <;> omega
      · obtain rfl : j = ks.length := by omega
        rw [List.take_length]
        go_wp2_with fail
        go_ret2
        exact ⟨HV.out.symm ▸ rfl, b0.trans (hlo.mono hsz)⟩
set_option maxRecDepth 100000 in
set_option maxHeartbeats 2000000 in
theorem weigh_any : ∀ (d : Nat) (T : Nd), T.dep ≤ d → T.cnt ≤ 4000000000000 → ∀ w, Nin w T → Calls Try.prog 10 #[T.val] w fun e w' => e = .returned (.tuple #[.int .i64 T.cnt, .int .i64 T.dep]) ∧ Below w.heap.size w w' := by
  intro d
  induction d with
  | zero =>
    intro T h _ w hT
    obtain ⟨k, l, c, nm, tx, n, v, x, s, a, cap, ks⟩ := T
    unfold Nd.dep at h; omega
  | succ d ih =>
    intro T hd hc w hT
    obtain ⟨k, l, c, nm, tx, n, v, x, s, a, cap, ks⟩ := T
    have hrow := Lib.hid hT.row
    have hall := Lib.hid hT.all
    have hdd : depL ks ≤ d := by unfold Nd.dep at hd; omega
    have hcc : 1 + cntL ks ≤ 4000000000000 := by unfold Nd.cnt at hc; exact hc
    have hl1 := len_cntL ks
    have hl2 := depL_le ks
    have HV : Hid (Ending.returned (Value.tuple #[.int .i64 (Nd.mk k l c nm tx n v x s a cap ks).cnt, .int .i64 (Nd.mk k l c nm tx n v x s a cap ks).dep]) = .returned (.tuple #[.int .i64 (1 + cntL ks : Nat), .int .i64 (depL ks + 1 : Nat)])) := Lib.hid (by unfold Nd.cnt Nd.dep; rfl)
    have IH := Lib.hid ih
    clear ih hd hc hT
    simp only [Nd.val]
    go_enter Try.func10, Try.ntmps10
    go_wp2_with fail
    have b0 : Below w.heap.size w (w.alloc (.cells (Nd.mk k l c nm tx n v x s a cap ks).cells 34)) := (Below.refl _ _).alloc (Nat.le_refl _) _
    simp only [Nd.cells] at b0
    generalize (w.alloc (.cells _ 34)) = W1 at b0 ⊢
    have hsz := b0.size
    go_loopw [4, 5, 13] (fun p q i wr => ∃ j : Nat, j ≤ ks.length ∧ p = .int .i64 ((1 + cntL (ks.take j) : Nat) : Int) ∧ q = .int .i64 ((depL (ks.take j) : Nat) : Int) ∧ i = .int .i64 (j : Int) ∧ Below W1.heap.size W1 wr) (fun _ _ i _ => ks.length - (intOf i).toNat)
    case atStart => exact ⟨0, Nat.zero_le _, rfl, rfl, rfl, Below.refl _ _⟩
    case round =>
      obtain ⟨j, hj, rfl, rfl, rfl, hlo⟩ := hrel
      rename World => WR
      by_cases hlt : j < ks.length
      · have hne : ks ≠ [] := by rintro rfl; simp at hlt
        obtain ⟨hcap, hrr⟩ := hrow.out
        obtain ⟨b, o, ha, hf⟩ := hrr hne
        have hf := hf j hlt
        have hin := hall.out _ (List.getElem_mem hlt)
        have hcm := cntL_mem (List.getElem_mem hlt)
        have hdm := depL_mem (List.getElem_mem hlt)
        have ect := cntL_take ks j hlt
        have edt := depL_take ks j hlt
        have ecl := cntL_take_le ks (j + 1)
        have edl := depL_take_le ks (j + 1)
        have hin := hin.keep (b0.trans (hlo.mono hsz))
        have hf := hf.below (b0.trans (hlo.mono hsz))
        have hcall := fun wq (hb : Below WR.heap.size WR wq) => IH.out ks[j] (Nat.le_trans hdm hdd) (by omega) wq (hin.keep hb)
        generalize ks[j] = K at *
        obtain ⟨k', l', c', nm', tx', n', v', x', s', a', cap', ks'⟩ := K
        obtain ⟨h0, h1, h2, h3, h4, h5, h6, h7, h8, h9⟩ := hf
        subst ha
        clear hrr hne
        rw [ect] at ecl
        rw [edt] at edl
        simp only [Nd.val] at hcall
        generalize hkc : (Nd.mk k' l' c' nm' tx' n' v' x' s' a' cap' ks').cnt = KC at *
        generalize hkd : (Nd.mk k' l' c' nm' tx' n' v' x' s' a' cap' ks').dep = KD at *
        clear hkc hkd
        have HC := Lib.hid hcall
        clear hcall hrow hall hin IH
        have HE1 := Lib.hid ect
        have HE2 := Lib.hid edt
        clear ect edt
        have hjl : (j : Int) < (ks.length : Int) := by omega
        have hj0 : (0 : Int) ≤ (j : Int) := by omega
        generalize hC : cntL (ks.take j) = CJ at *
        generalize hD : depL (ks.take j) = DJ at *
        go_upto_region 5 with fail
        go_wp2_with (refine (HC.out _ ((Below.refl _ _).alloc (Nat.le_refl _) _)).mono ?_; rintro e w3 ⟨rfl, hb3⟩)
        have hW := hlo.size
        go_round
        case rel =>
          refine ⟨j + 1, hlt, congrArg _ (by rw [HE1.out]; omega), congrArg _ (by rw [HE2.out, Nat.max_def]; split <;> split <;> omega), rfl, (hlo.alloc hW _).trans (hb3.mono ?_)⟩
          simp <;> omega
        case measure => simp [intOf] <;> omega
      · obtain rfl : j = ks.length := by omega
        rw [List.take_length]
        go_wp2_with fail
        go_ret2
        exact ⟨HV.out.symm ▸ rfl, b0.trans (hlo.mono hsz)⟩
end Go.Proofs.Ytpjnjcljaoaceaa
