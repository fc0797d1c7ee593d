/- selects, dangles, isAmbiguous: the program's and the reference's looks at a node. -/
import Derived.Test.YtpjnjcljaoaceaaSyMt
import Derived.Test.YtpjnjcljaoaceaaSyMtN
namespace Go.Proofs.Ytpjnjcljaoaceaa
open Go Go.RowKit
set_option linter.unusedVariables false
theorem match_any (P : List UInt8) (ks : List Nd) (a : Option Addr) (cap : Nat) (hl : ks.length ≤ 1000000) (w : World) (hr : Row w a cap ks) : Calls Try.prog 24 #[.string (bs P), .slice a ks.length cap] w fun e w' => ∃ v, e = .returned (.tuple #[v, .bool (mt P ks).isSome]) ∧ (∀ l, mt P ks = some l → OB w.heap.size w' v l) ∧ Below w.heap.size w w' := by
  cases ks with
  | nil =>
    refine (match_nil P a cap w).mono ?_
    rintro e w' ⟨v, rfl, hv, hb⟩
    refine ⟨v, rfl, fun l hl => ?_, hb⟩
    have hl0 : l = [] := List.eq_nil_of_length_eq_zero (mt_len P.length P [] l (Nat.le_refl _) hl)
    subst hl0
    rw [hv _ hl]
    exact World.ownsRow_nil _ _ _ _
  | cons k r =>
    obtain ⟨b, o, rfl, _⟩ := hr.2 (by simp)
    exact match_some P (k :: r) b o cap hl w hr
def selK (k : Int) : Bool := k == 80 || (k == 81 || (k == 82 || k == 83))
set_option maxRecDepth 100000 in
set_option maxHeartbeats 2000000 in
theorem selects_any (T : Nd) (w : World) : Calls Try.prog 27 #[T.val] w fun e w' => e = .returned (.bool (selK T.kind)) ∧ Below w.heap.size w w' := by
  obtain ⟨k, l, c, nm, tx, n, v, x, s, a, cap, ks⟩ := T
  simp only [Nd.val, Nd.kind]
  unfold selK
  cases h0 : (k == 80)
  · cases h1 : (k == 81)
    · cases h2 : (k == 82)
      · cases h3 : (k == 83)
        all_goals
          go_enter Try.func27, Try.ntmps27
          go_wp2_with fail
          go_ret
          exact ⟨rfl, (Below.refl _ _).alloc (Nat.le_refl _) _⟩
      · go_enter Try.func27, Try.ntmps27
        go_wp2_with fail
        go_ret
        exact ⟨rfl, (Below.refl _ _).alloc (Nat.le_refl _) _⟩
    · go_enter Try.func27, Try.ntmps27
      go_wp2_with fail
      go_ret
      exact ⟨rfl, (Below.refl _ _).alloc (Nat.le_refl _) _⟩
  · go_enter Try.func27, Try.ntmps27
    go_wp2_with fail
    go_ret
    exact ⟨rfl, (Below.refl _ _).alloc (Nat.le_refl _) _⟩
def on3 (f : Nd → Bool) : List Nd → Bool
  | [_, _, x] => f x
  | _ => false
def on2 (f : Nd → Bool) : List Nd → Bool
  | [_, x] => f x
  | _ => false
/-- an else behind the statement would belong to it -/
def dan : Nat → Nd → Bool
  | 0, _ => false
  | d + 1, .mk k _ _ _ _ _ _ _ _ _ _ ks =>
    if k = 57 then on3 (fun x => x.kind == 0 || dan d x) ks
    else if k = 62 ∨ k = 63 then on2 (fun x => dan d x) ks
    else if k = 64 ∨ k = 65 then on3 (fun x => dan d x) ks
    else false
theorem len3 {ks : List Nd} (h : ks.length = 3) : ∃ x y z, ks = [x, y, z] := by
  match ks, h with
  | [x, y, z], _ => exact ⟨x, y, z, rfl⟩
theorem len2 {ks : List Nd} (h : ks.length = 2) : ∃ x y, ks = [x, y] := by
  match ks, h with
  | [x, y], _ => exact ⟨x, y, rfl⟩
theorem no3 {ks : List Nd} (h : ks.length ≠ 3) (f : Nd → Bool) : on3 f ks = false := by
  match ks, h with
  | [], _ => rfl
  | [_], _ => rfl
  | [_, _], _ => rfl
  | [_, _, _], h => exact absurd rfl h
  | _ :: _ :: _ :: _ :: _, _ => rfl
theorem no2 {ks : List Nd} (h : ks.length ≠ 2) (f : Nd → Bool) : on2 f ks = false := by
  match ks, h with
  | [], _ => rfl
  | [_], _ => rfl
  | [_, _], h => exact absurd rfl h
  | _ :: _ :: _ :: _, _ => rfl
set_option maxRecDepth 100000 in
set_option maxHeartbeats 2000000 in
theorem dangles_any : ∀ (d : Nat) (T : Nd), T.dep ≤ d → T.cnt ≤ 4000000000000 → ∀ w, Nin w T → Calls Try.prog 43 #[T.val] w fun e w' => e = .returned (.bool (dan d T)) ∧ Below w.heap.size w w' := by
  intro d
  induction d with
  | zero =>
    intro T h _ w hT
    obtain ⟨k, l, c, nm, tx, n, v, x, s, a, cap, ks⟩ := T
    unfold Nd.dep at h; omega
  | succ d ih =>
    intro T hd hc w hT
    obtain ⟨k, l, c, nm, tx, n, v, x, s, a, cap, ks⟩ := T
    have hrow := Lib.hid hT.row
    have hall := Lib.hid hT.all
    have hdd : depL ks ≤ d := by unfold Nd.dep at hd; omega
    have hcc : 1 + cntL ks ≤ 4000000000000 := by unfold Nd.cnt at hc; exact hc
    have hlen : ks.length ≤ 4000000000000 := by have := len_cntL ks; omega
    have IH := Lib.hid ih
    clear ih hd hT hc
    simp only [Nd.val, dan]
    have al : Below w.heap.size w w := Below.refl _ _
    by_cases e57 : k = 57
    · subst e57
      simp only [show ((57 : Int) = 57) = True from eq_true rfl, true_or, or_true, if_true]
      by_cases hn : ks.length = 3
      · obtain ⟨K0, K1, K, rfl⟩ := len3 hn
        clear hn
        obtain ⟨b, o, rfl, hf⟩ := hrow.out.2 (by simp)
        have hf := hf 2 (by simp)
        have hin := hall.out K (by simp)
        have hdm : K.dep ≤ d := Nat.le_trans (depL_mem (by simp)) hdd
        have hcm : K.cnt ≤ 4000000000000 := Nat.le_trans (cntL_mem (by simp)) (Nat.le_trans (Nat.le_add_left _ 1) hcc)
        have hcall := fun wq (hb : Below w.heap.size w wq) => IH.out K hdm hcm wq (hin.keep hb)
        have HC := Lib.hid hcall
        clear hcall hin hdm hcm IH hall hrow hdd hcc hlen
        simp only [on3, on2] at *
        generalize hR : dan d K = R at *
        obtain ⟨k', l', c', nm', tx', n', v', x', s', a', cap', ks'⟩ := K
        clear hR
        simp only [Nd.val, Nd.kind] at *
        obtain ⟨h0, h1, h2, h3, h4, h5, h6, h7, h8, h9⟩ := hf
        simp only [List.length_cons, List.length_nil] at *
        simp only [Nat.reduceMul, Nat.reduceAdd] at *
        have hbs : b < w.heap.size := World.block_lt_of_cell? w _ h0
        have hbn : b ≠ w.heap.size := by omega
        cases hz : (k' == 0)
        · go_enter Try.func43, Try.ntmps43
          go_wp2_with (go_at_call 43; refine (HC.out _ ((Below.refl _ _).alloc (Nat.le_refl _) _)).mono ?_; rintro e w3 ⟨rfl, hb3⟩)
          go_ret
          exact ⟨rfl, ((Below.refl _ _).alloc (Nat.le_refl _) _).trans (hb3.mono (by simp))⟩
        · go_enter Try.func43, Try.ntmps43
          go_wp2_with fail
          go_ret
          exact ⟨rfl, (Below.refl _ _).alloc (Nat.le_refl _) _⟩
      · have hnn : ((ks.length : Int) - 1 == 2) = false := beq_eq_false_iff_ne.2 (by omega)
        have hi0 : (0 : Int) ≤ (ks.length : Int) := by omega
        have hi1 : (ks.length : Int) ≤ 4000000000000 := by omega
        rw [no3 hn]
        clear hrow hall IH hdd hn
        go_enter Try.func43, Try.ntmps43
        go_wp2_with fail
        go_ret
        exact ⟨rfl, (Below.refl _ _).alloc (Nat.le_refl _) _⟩
    by_cases e62 : k = 62
    · subst e62
      simp only [show ((62 : Int) = 62) = True from eq_true rfl, true_or, or_true, if_true, show ((62 : Int) = 57) = False from eq_false (by decide), false_or, or_false, if_false]
      by_cases hn : ks.length = 2
      · obtain ⟨K0, K, rfl⟩ := len2 hn
        clear hn
        obtain ⟨b, o, rfl, hf⟩ := hrow.out.2 (by simp)
        have hf := hf 1 (by simp)
        have hin := hall.out K (by simp)
        have hdm : K.dep ≤ d := Nat.le_trans (depL_mem (by simp)) hdd
        have hcm : K.cnt ≤ 4000000000000 := Nat.le_trans (cntL_mem (by simp)) (Nat.le_trans (Nat.le_add_left _ 1) hcc)
        have hcall := fun wq (hb : Below w.heap.size w wq) => IH.out K hdm hcm wq (hin.keep hb)
        have HC := Lib.hid hcall
        clear hcall hin hdm hcm IH hall hrow hdd hcc hlen
        simp only [on3, on2] at *
        generalize hR : dan d K = R at *
        obtain ⟨k', l', c', nm', tx', n', v', x', s', a', cap', ks'⟩ := K
        clear hR
        simp only [Nd.val, Nd.kind] at *
        obtain ⟨h0, h1, h2, h3, h4, h5, h6, h7, h8, h9⟩ := hf
        simp only [List.length_cons, List.length_nil] at *
        simp only [Nat.reduceMul, Nat.reduceAdd] at *
        have hbs : b < w.heap.size := World.block_lt_of_cell? w _ h0
        have hbn : b ≠ w.heap.size := by omega
        go_enter Try.func43, Try.ntmps43
        go_wp2_with (go_at_call 43; refine (HC.out _ ((Below.refl _ _).alloc (Nat.le_refl _) _)).mono ?_; rintro e w3 ⟨rfl, hb3⟩)
        go_ret
        exact ⟨rfl, ((Below.refl _ _).alloc (Nat.le_refl _) _).trans (hb3.mono (by simp))⟩
      · have hnn : ((ks.length : Int) - 1 == 1) = false := beq_eq_false_iff_ne.2 (by omega)
        have hi0 : (0 : Int) ≤ (ks.length : Int) := by omega
        have hi1 : (ks.length : Int) ≤ 4000000000000 := by omega
        rw [no2 hn]
        clear hrow hall IH hdd hn
        go_enter Try.func43, Try.ntmps43
        go_wp2_with fail
        go_ret
        exact ⟨rfl, (Below.refl _ _).alloc (Nat.le_refl _) _⟩
    by_cases e63 : k = 63
    · subst e63
      simp only [show ((63 : Int) = 63) = True from eq_true rfl, true_or, or_true, if_true, show ((63 : Int) = 57) = False from eq_false (by decide), false_or, or_false, if_false, show ((63 : Int) = 62) = False from eq_false (by decide), false_or, or_false, if_false]
      by_cases hn : ks.length = 2
      · obtain ⟨K0, K, rfl⟩ := len2 hn
        clear hn
        obtain ⟨b, o, rfl, hf⟩ := hrow.out.2 (by simp)
        have hf := hf 1 (by simp)
        have hin := hall.out K (by simp)
        have hdm : K.dep ≤ d := Nat.le_trans (depL_mem (by simp)) hdd
        have hcm : K.cnt ≤ 4000000000000 := Nat.le_trans (cntL_mem (by simp)) (Nat.le_trans (Nat.le_add_left _ 1) hcc)
        have hcall := fun wq (hb : Below w.heap.size w wq) => IH.out K hdm hcm wq (hin.keep hb)
        have HC := Lib.hid hcall
        clear hcall hin hdm hcm IH hall hrow hdd hcc hlen
        simp only [on3, on2] at *
        generalize hR : dan d K = R at *
        obtain ⟨k', l', c', nm', tx', n', v', x', s', a', cap', ks'⟩ := K
        clear hR
        simp only [Nd.val, Nd.kind] at *
        obtain ⟨h0, h1, h2, h3, h4, h5, h6, h7, h8, h9⟩ := hf
        simp only [List.length_cons, List.length_nil] at *
        simp only [Nat.reduceMul, Nat.reduceAdd] at *
        have hbs : b < w.heap.size := World.block_lt_of_cell? w _ h0
        have hbn : b ≠ w.heap.size := by omega
        go_enter Try.func43, Try.ntmps43
        go_wp2_with (go_at_call 43; refine (HC.out _ ((Below.refl _ _).alloc (Nat.le_refl _) _)).mono ?_; rintro e w3 ⟨rfl, hb3⟩)
        go_ret
        exact ⟨rfl, ((Below.refl _ _).alloc (Nat.le_refl _) _).trans (hb3.mono (by simp))⟩
      · have hnn : ((ks.length : Int) - 1 == 1) = false := beq_eq_false_iff_ne.2 (by omega)
        have hi0 : (0 : Int) ≤ (ks.length : Int) := by omega
        have hi1 : (ks.length : Int) ≤ 4000000000000 := by omega
        rw [no2 hn]
        clear hrow hall IH hdd hn
        go_enter Try.func43, Try.ntmps43
        go_wp2_with fail
        go_ret
        exact ⟨rfl, (Below.refl _ _).alloc (Nat.le_refl _) _⟩
    by_cases e64 : k = 64
    · subst e64
      simp only [show ((64 : Int) = 64) = True from eq_true rfl, true_or, or_true, if_true, show ((64 : Int) = 57) = False from eq_false (by decide), false_or, or_false, if_false, show ((64 : Int) = 62) = False from eq_false (by decide), false_or, or_false, if_false, show ((64 : Int) = 63) = False from eq_false (by decide), false_or, or_false, if_false]
      by_cases hn : ks.length = 3
      · obtain ⟨K0, K1, K, rfl⟩ := len3 hn
        clear hn
        obtain ⟨b, o, rfl, hf⟩ := hrow.out.2 (by simp)
        have hf := hf 2 (by simp)
        have hin := hall.out K (by simp)
        have hdm : K.dep ≤ d := Nat.le_trans (depL_mem (by simp)) hdd
        have hcm : K.cnt ≤ 4000000000000 := Nat.le_trans (cntL_mem (by simp)) (Nat.le_trans (Nat.le_add_left _ 1) hcc)
        have hcall := fun wq (hb : Below w.heap.size w wq) => IH.out K hdm hcm wq (hin.keep hb)
        have HC := Lib.hid hcall
        clear hcall hin hdm hcm IH hall hrow hdd hcc hlen
        simp only [on3, on2] at *
        generalize hR : dan d K = R at *
        obtain ⟨k', l', c', nm', tx', n', v', x', s', a', cap', ks'⟩ := K
        clear hR
        simp only [Nd.val, Nd.kind] at *
        obtain ⟨h0, h1, h2, h3, h4, h5, h6, h7, h8, h9⟩ := hf
        simp only [List.length_cons, List.length_nil] at *
        simp only [Nat.reduceMul, Nat.reduceAdd] at *
        have hbs : b < w.heap.size := World.block_lt_of_cell? w _ h0
        have hbn : b ≠ w.heap.size := by omega
        go_enter Try.func43, Try.ntmps43
        go_wp2_with (go_at_call 43; refine (HC.out _ ((Below.refl _ _).alloc (Nat.le_refl _) _)).mono ?_; rintro e w3 ⟨rfl, hb3⟩)
        go_ret
        exact ⟨rfl, ((Below.refl _ _).alloc (Nat.le_refl _) _).trans (hb3.mono (by simp))⟩
      · have hnn : ((ks.length : Int) - 1 == 2) = false := beq_eq_false_iff_ne.2 (by omega)
        have hi0 : (0 : Int) ≤ (ks.length : Int) := by omega
        have hi1 : (ks.length : Int) ≤ 4000000000000 := by omega
        rw [no3 hn]
        clear hrow hall IH hdd hn
        go_enter Try.func43, Try.ntmps43
        go_wp2_with fail
        go_ret
        exact ⟨rfl, (Below.refl _ _).alloc (Nat.le_refl _) _⟩
    by_cases e65 : k = 65
    · subst e65
      simp only [show ((65 : Int) = 65) = True from eq_true rfl, true_or, or_true, if_true, show ((65 : Int) = 57) = False from eq_false (by decide), false_or, or_false, if_false, show ((65 : Int) = 62) = False from eq_false (by decide), false_or, or_false, if_false, show ((65 : Int) = 63) = False from eq_false (by decide), false_or, or_false, if_false, show ((65 : Int) = 64) = False from eq_false (by decide), false_or, or_false, if_false]
      by_cases hn : ks.length = 3
      · obtain ⟨K0, K1, K, rfl⟩ := len3 hn
        clear hn
        obtain ⟨b, o, rfl, hf⟩ := hrow.out.2 (by simp)
        have hf := hf 2 (by simp)
        have hin := hall.out K (by simp)
        have hdm : K.dep ≤ d := Nat.le_trans (depL_mem (by simp)) hdd
        have hcm : K.cnt ≤ 4000000000000 := Nat.le_trans (cntL_mem (by simp)) (Nat.le_trans (Nat.le_add_left _ 1) hcc)
        have hcall := fun wq (hb : Below w.heap.size w wq) => IH.out K hdm hcm wq (hin.keep hb)
        have HC := Lib.hid hcall
        clear hcall hin hdm hcm IH hall hrow hdd hcc hlen
        simp only [on3, on2] at *
        generalize hR : dan d K = R at *
        obtain ⟨k', l', c', nm', tx', n', v', x', s', a', cap', ks'⟩ := K
        clear hR
        simp only [Nd.val, Nd.kind] at *
        obtain ⟨h0, h1, h2, h3, h4, h5, h6, h7, h8, h9⟩ := hf
        simp only [List.length_cons, List.length_nil] at *
        simp only [Nat.reduceMul, Nat.reduceAdd] at *
        have hbs : b < w.heap.size := World.block_lt_of_cell? w _ h0
        have hbn : b ≠ w.heap.size := by omega
        go_enter Try.func43, Try.ntmps43
        go_wp2_with (go_at_call 43; refine (HC.out _ ((Below.refl _ _).alloc (Nat.le_refl _) _)).mono ?_; rintro e w3 ⟨rfl, hb3⟩)
        go_ret
        exact ⟨rfl, ((Below.refl _ _).alloc (Nat.le_refl _) _).trans (hb3.mono (by simp))⟩
      · have hnn : ((ks.length : Int) - 1 == 2) = false := beq_eq_false_iff_ne.2 (by omega)
        have hi0 : (0 : Int) ≤ (ks.length : Int) := by omega
        have hi1 : (ks.length : Int) ≤ 4000000000000 := by omega
        rw [no3 hn]
        clear hrow hall IH hdd hn
        go_enter Try.func43, Try.ntmps43
        go_wp2_with fail
        go_ret
        exact ⟨rfl, (Below.refl _ _).alloc (Nat.le_refl _) _⟩
    have q57 : (k == 57) = false := beq_eq_false_iff_ne.2 e57
    have q62 : (k == 62) = false := beq_eq_false_iff_ne.2 e62
    have q63 : (k == 63) = false := beq_eq_false_iff_ne.2 e63
    have q64 : (k == 64) = false := beq_eq_false_iff_ne.2 e64
    have q65 : (k == 65) = false := beq_eq_false_iff_ne.2 e65
    simp only [if_neg e57, if_neg (show ¬ (k = 62 ∨ k = 63) by omega), if_neg (show ¬ (k = 64 ∨ k = 65) by omega)]
    clear hrow hall IH hdd e57 e62 e63 e64 e65
    go_enter Try.func43, Try.ntmps43
    go_wp2_with fail
    go_ret
    exact ⟨rfl, (Below.refl _ _).alloc (Nat.le_refl _) _⟩
end Go.Proofs.Ytpjnjcljaoaceaa
