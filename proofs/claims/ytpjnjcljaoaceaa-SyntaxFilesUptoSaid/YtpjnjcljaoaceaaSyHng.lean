/- The reference's hangs. -/
import Derived.Test.YtpjnjcljaoaceaaSyDan
namespace Go.Proofs.Ytpjnjcljaoaceaa
open Go Go.RowKit
set_option linter.unusedVariables false
set_option maxRecDepth 100000 in
set_option maxHeartbeats 2000000 in
theorem hangs_any : ∀ (d : Nat) (T : Nd), T.dep ≤ d → T.cnt ≤ 4000000000000 → ∀ w, Nin w T → Calls Try.prog 19 #[T.val] w fun e w' => e = .returned (.bool (dan d T)) ∧ Below w.heap.size w w' := by
  intro d
  induction d with
  | zero =>
    intro T h _ w hT
    obtain ⟨k, l, c, nm, tx, n, v, x, s, a, cap, ks⟩ := T
    unfold Nd.dep at h; omega
  | succ d ih =>
    intro T hd hc w hT
    obtain ⟨k, l, c, nm, tx, n, v, x, s, a, cap, ks⟩ := T
    have hrow := Lib.hid hT.row
    have hall := Lib.hid hT.all
    have hdd : depL ks ≤ d := by unfold Nd.dep at hd; omega
    have hcc : 1 + cntL ks ≤ 4000000000000 := by unfold Nd.cnt at hc; exact hc
    have hlen : ks.length ≤ 4000000000000 := by have := len_cntL ks; omega
    have IH := Lib.hid ih
    clear ih hd hT hc
    simp only [Nd.val, dan]
    have al : Below w.heap.size w w := Below.refl _ _
    by_cases e57 : k = 57
    · subst e57
      simp only [show ((57 : Int) = 57) = True from eq_true rfl, true_or, or_true, if_true]
      by_cases hn : ks.length = 3
      · obtain ⟨K0, K1, K, rfl⟩ := len3 hn
        clear hn
        obtain ⟨b, o, rfl, hf⟩ := hrow.out.2 (by simp)
        have hf := hf 2 (by simp)
        have hin := hall.out K (by simp)
        have hdm : K.dep ≤ d := Nat.le_trans (depL_mem (by simp)) hdd
        have hcm : K.cnt ≤ 4000000000000 := Nat.le_trans (cntL_mem (by simp)) (Nat.le_trans (Nat.le_add_left _ 1) hcc)
        have hcall := fun wq (hb : Below w.heap.size w wq) => IH.out K hdm hcm wq (hin.keep hb)
        have HC := Lib.hid hcall
        clear hcall hin hdm hcm IH hall hrow hdd hcc hlen
        simp only [on3, on2] at *
        generalize hR : dan d K = R at *
        obtain ⟨k', l', c', nm', tx', n', v', x', s', a', cap', ks'⟩ := K
        clear hR
        simp only [Nd.val, Nd.kind] at *
        obtain ⟨h0, h1, h2, h3, h4, h5, h6, h7, h8, h9⟩ := hf
        simp only [List.length_cons, List.length_nil] at *
        simp only [Nat.reduceMul, Nat.reduceAdd] at *
        have hbs : b < w.heap.size := World.block_lt_of_cell? w _ h0
        have hbn : b ≠ w.heap.size := by omega
        cases hz : (k' == 0)
        · go_enter Try.func19, Try.ntmps19
          go_wp2_with (go_at_call 19; refine (HC.out _ ((Below.refl _ _).alloc (Nat.le_refl _) _)).mono ?_; rintro e w3 ⟨rfl, hb3⟩)
          go_ret
          exact ⟨rfl, ((Below.refl _ _).alloc (Nat.le_refl _) _).trans (hb3.mono (by simp))⟩
        · go_enter Try.func19, Try.ntmps19
          go_wp2_with fail
          go_ret
          exact ⟨rfl, (Below.refl _ _).alloc (Nat.le_refl _) _⟩
      · have hnn : ((ks.length : Int) - 1 == 2) = false := beq_eq_false_iff_ne.2 (by omega)
        have hi0 : (0 : Int) ≤ (ks.length : Int) := by omega
        have hi1 : (ks.length : Int) ≤ 4000000000000 := by omega
        rw [no3 hn]
        clear hrow hall IH hdd hn
        go_enter Try.func19, Try.ntmps19
        go_wp2_with fail
        go_ret
        exact ⟨rfl, (Below.refl _ _).alloc (Nat.le_refl _) _⟩
    by_cases e62 : k = 62
    · subst e62
      simp only [show ((62 : Int) = 62) = True from eq_true rfl, true_or, or_true, if_true, show ((62 : Int) = 57) = False from eq_false (by decide), false_or, or_false, if_false]
      by_cases hn : ks.length = 2
      · obtain ⟨K0, K, rfl⟩ := len2 hn
        clear hn
        obtain ⟨b, o, rfl, hf⟩ := hrow.out.2 (by simp)
        have hf := hf 1 (by simp)
        have hin := hall.out K (by simp)
        have hdm : K.dep ≤ d := Nat.le_trans (depL_mem (by simp)) hdd
        have hcm : K.cnt ≤ 4000000000000 := Nat.le_trans (cntL_mem (by simp)) (Nat.le_trans (Nat.le_add_left _ 1) hcc)
        have hcall := fun wq (hb : Below w.heap.size w wq) => IH.out K hdm hcm wq (hin.keep hb)
        have HC := Lib.hid hcall
        clear hcall hin hdm hcm IH hall hrow hdd hcc hlen
        simp only [on3, on2] at *
        generalize hR : dan d K = R at *
        obtain ⟨k', l', c', nm', tx', n', v', x', s', a', cap', ks'⟩ := K
        clear hR
        simp only [Nd.val, Nd.kind] at *
        obtain ⟨h0, h1, h2, h3, h4, h5, h6, h7, h8, h9⟩ := hf
        simp only [List.length_cons, List.length_nil] at *
        simp only [Nat.reduceMul, Nat.reduceAdd] at *
        have hbs : b < w.heap.size := World.block_lt_of_cell? w _ h0
        have hbn : b ≠ w.heap.size := by omega
        go_enter Try.func19, Try.ntmps19
        go_wp2_with (go_at_call 19; refine (HC.out _ ((Below.refl _ _).alloc (Nat.le_refl _) _)).mono ?_; rintro e w3 ⟨rfl, hb3⟩)
        go_ret
        exact ⟨rfl, ((Below.refl _ _).alloc (Nat.le_refl _) _).trans (hb3.mono (by simp))⟩
      · have hnn : ((ks.length : Int) - 1 == 1) = false := beq_eq_false_iff_ne.2 (by omega)
        have hi0 : (0 : Int) ≤ (ks.length : Int) := by omega
        have hi1 : (ks.length : Int) ≤ 4000000000000 := by omega
        rw [no2 hn]
        clear hrow hall IH hdd hn
        go_enter Try.func19, Try.ntmps19
        go_wp2_with fail
        go_ret
        exact ⟨rfl, (Below.refl _ _).alloc (Nat.le_refl _) _⟩
    by_cases e63 : k = 63
    · subst e63
      simp only [show ((63 : Int) = 63) = True from eq_true rfl, true_or, or_true, if_true, show ((63 : Int) = 57) = False from eq_false (by decide), false_or, or_false, if_false, show ((63 : Int) = 62) = False from eq_false (by decide), false_or, or_false, if_false]
      by_cases hn : ks.length = 2
      · obtain ⟨K0, K, rfl⟩ := len2 hn
        clear hn
        obtain ⟨b, o, rfl, hf⟩ := hrow.out.2 (by simp)
        have hf := hf 1 (by simp)
        have hin := hall.out K (by simp)
        have hdm : K.dep ≤ d := Nat.le_trans (depL_mem (by simp)) hdd
        have hcm : K.cnt ≤ 4000000000000 := Nat.le_trans (cntL_mem (by simp)) (Nat.le_trans (Nat.le_add_left _ 1) hcc)
        have hcall := fun wq (hb : Below w.heap.size w wq) => IH.out K hdm hcm wq (hin.keep hb)
        have HC := Lib.hid hcall
        clear hcall hin hdm hcm IH hall hrow hdd hcc hlen
        simp only [on3, on2] at *
        generalize hR : dan d K = R at *
        obtain ⟨k', l', c', nm', tx', n', v', x', s', a', cap', ks'⟩ := K
        clear hR
        simp only [Nd.val, Nd.kind] at *
        obtain ⟨h0, h1, h2, h3, h4, h5, h6, h7, h8, h9⟩ := hf
        simp only [List.length_cons, List.length_nil] at *
        simp only [Nat.reduceMul, Nat.reduceAdd] at *
        have hbs : b < w.heap.size := World.block_lt_of_cell? w _ h0
        have hbn : b ≠ w.heap.size := by omega
        go_enter Try.func19, Try.ntmps19
        go_wp2_with (go_at_call 19; refine (HC.out _ ((Below.refl _ _).alloc (Nat.le_refl _) _)).mono ?_; rintro e w3 ⟨rfl, hb3⟩)
        go_ret
        exact ⟨rfl, ((Below.refl _ _).alloc (Nat.le_refl _) _).trans (hb3.mono (by simp))⟩
      · have hnn : ((ks.length : Int) - 1 == 1) = false := beq_eq_false_iff_ne.2 (by omega)
        have hi0 : (0 : Int) ≤ (ks.length : Int) := by omega
        have hi1 : (ks.length : Int) ≤ 4000000000000 := by omega
        rw [no2 hn]
        clear hrow hall IH hdd hn
        go_enter Try.func19, Try.ntmps19
        go_wp2_with fail
        go_ret
        exact ⟨rfl, (Below.refl _ _).alloc (Nat.le_refl _) _⟩
    by_cases e64 : k = 64
    · subst e64
      simp only [show ((64 : Int) = 64) = True from eq_true rfl, true_or, or_true, if_true, show ((64 : Int) = 57) = False from eq_false (by decide), false_or, or_false, if_false, show ((64 : Int) = 62) = False from eq_false (by decide), false_or, or_false, if_false, show ((64 : Int) = 63) = False from eq_false (by decide), false_or, or_false, if_false]
      by_cases hn : ks.length = 3
      · obtain ⟨K0, K1, K, rfl⟩ := len3 hn
        clear hn
        obtain ⟨b, o, rfl, hf⟩ := hrow.out.2 (by simp)
        have hf := hf 2 (by simp)
        have hin := hall.out K (by simp)
        have hdm : K.dep ≤ d := Nat.le_trans (depL_mem (by simp)) hdd
        have hcm : K.cnt ≤ 4000000000000 := Nat.le_trans (cntL_mem (by simp)) (Nat.le_trans (Nat.le_add_left _ 1) hcc)
        have hcall := fun wq (hb : Below w.heap.size w wq) => IH.out K hdm hcm wq (hin.keep hb)
        have HC := Lib.hid hcall
        clear hcall hin hdm hcm IH hall hrow hdd hcc hlen
        simp only [on3, on2] at *
        generalize hR : dan d K = R at *
        obtain ⟨k', l', c', nm', tx', n', v', x', s', a', cap', ks'⟩ := K
        clear hR
        simp only [Nd.val, Nd.kind] at *
        obtain ⟨h0, h1, h2, h3, h4, h5, h6, h7, h8, h9⟩ := hf
        simp only [List.length_cons, List.length_nil] at *
        simp only [Nat.reduceMul, Nat.reduceAdd] at *
        have hbs : b < w.heap.size := World.block_lt_of_cell? w _ h0
        have hbn : b ≠ w.heap.size := by omega
        go_enter Try.func19, Try.ntmps19
        go_wp2_with (go_at_call 19; refine (HC.out _ ((Below.refl _ _).alloc (Nat.le_refl _) _)).mono ?_; rintro e w3 ⟨rfl, hb3⟩)
        go_ret
        exact ⟨rfl, ((Below.refl _ _).alloc (Nat.le_refl _) _).trans (hb3.mono (by simp))⟩
      · have hnn : ((ks.length : Int) - 1 == 2) = false := beq_eq_false_iff_ne.2 (by omega)
        have hi0 : (0 : Int) ≤ (ks.length : Int) := by omega
        have hi1 : (ks.length : Int) ≤ 4000000000000 := by omega
        rw [no3 hn]
        clear hrow hall IH hdd hn
        go_enter Try.func19, Try.ntmps19
        go_wp2_with fail
        go_ret
        exact ⟨rfl, (Below.refl _ _).alloc (Nat.le_refl _) _⟩
    by_cases e65 : k = 65
    · subst e65
      simp only [show ((65 : Int) = 65) = True from eq_true rfl, true_or, or_true, if_true, show ((65 : Int) = 57) = False from eq_false (by decide), false_or, or_false, if_false, show ((65 : Int) = 62) = False from eq_false (by decide), false_or, or_false, if_false, show ((65 : Int) = 63) = False from eq_false (by decide), false_or, or_false, if_false, show ((65 : Int) = 64) = False from eq_false (by decide), false_or, or_false, if_false]
      by_cases hn : ks.length = 3
      · obtain ⟨K0, K1, K, rfl⟩ := len3 hn
        clear hn
        obtain ⟨b, o, rfl, hf⟩ := hrow.out.2 (by simp)
        have hf := hf 2 (by simp)
        have hin := hall.out K (by simp)
        have hdm : K.dep ≤ d := Nat.le_trans (depL_mem (by simp)) hdd
        have hcm : K.cnt ≤ 4000000000000 := Nat.le_trans (cntL_mem (by simp)) (Nat.le_trans (Nat.le_add_left _ 1) hcc)
        have hcall := fun wq (hb : Below w.heap.size w wq) => IH.out K hdm hcm wq (hin.keep hb)
        have HC := Lib.hid hcall
        clear hcall hin hdm hcm IH hall hrow hdd hcc hlen
        simp only [on3, on2] at *
        generalize hR : dan d K = R at *
        obtain ⟨k', l', c', nm', tx', n', v', x', s', a', cap', ks'⟩ := K
        clear hR
        simp only [Nd.val, Nd.kind] at *
        obtain ⟨h0, h1, h2, h3, h4, h5, h6, h7, h8, h9⟩ := hf
        simp only [List.length_cons, List.length_nil] at *
        simp only [Nat.reduceMul, Nat.reduceAdd] at *
        have hbs : b < w.heap.size := World.block_lt_of_cell? w _ h0
        have hbn : b ≠ w.heap.size := by omega
        go_enter Try.func19, Try.ntmps19
        go_wp2_with (go_at_call 19; refine (HC.out _ ((Below.refl _ _).alloc (Nat.le_refl _) _)).mono ?_; rintro e w3 ⟨rfl, hb3⟩)
        go_ret
        exact ⟨rfl, ((Below.refl _ _).alloc (Nat.le_refl _) _).trans (hb3.mono (by simp))⟩
      · have hnn : ((ks.length : Int) - 1 == 2) = false := beq_eq_false_iff_ne.2 (by omega)
        have hi0 : (0 : Int) ≤ (ks.length : Int) := by omega
        have hi1 : (ks.length : Int) ≤ 4000000000000 := by omega
        rw [no3 hn]
        clear hrow hall IH hdd hn
        go_enter Try.func19, Try.ntmps19
        go_wp2_with fail
        go_ret
        exact ⟨rfl, (Below.refl _ _).alloc (Nat.le_refl _) _⟩
    have q57 : (k == 57) = false := beq_eq_false_iff_ne.2 e57
    have q62 : (k == 62) = false := beq_eq_false_iff_ne.2 e62
    have q63 : (k == 63) = false := beq_eq_false_iff_ne.2 e63
    have q64 : (k == 64) = false := beq_eq_false_iff_ne.2 e64
    have q65 : (k == 65) = false := beq_eq_false_iff_ne.2 e65
    simp only [if_neg e57, if_neg (show ¬ (k = 62 ∨ k = 63) by omega), if_neg (show ¬ (k = 64 ∨ k = 65) by omega)]
    clear hrow hall IH hdd e57 e62 e63 e64 e65
    go_enter Try.func19, Try.ntmps19
    go_wp2_with fail
    go_ret
    exact ⟨rfl, (Below.refl _ _).alloc (Nat.le_refl _) _⟩
end Go.Proofs.Ytpjnjcljaoaceaa
