/- Equal trees: the program's Same. -/
import Derived.Test.YtpjnjcljaoaceaaSySame
namespace Go.Proofs.Ytpjnjcljaoaceaa
open Go Go.RowKit
set_option linter.unusedVariables false
set_option maxRecDepth 100000 in
set_option maxHeartbeats 4000000 in
theorem same_step {d : Nat} (ih : SameTo 8 d) : SameTo 8 (d + 1) := by
  intro A B hd hc w hA hB
  obtain ⟨k, l, c, nm, tx, n, v, x, s, a, cap, ks⟩ := A
  obtain ⟨k', l', c', nm', tx', n', v', x', s', a', cap', ks'⟩ := B
  have hdd : depL ks ≤ d := by unfold Nd.dep at hd; omega
  have hcc : cntL ks ≤ 4000000000000 := by unfold Nd.cnt at hc; omega
  have hE := fun w1 (hb : Below w.heap.size w w1) => equalF ih a a' cap cap' ks ks' w1 hdd hcc (hA.row.below hb) (fun T h => (hA.all T h).keep hb) (hB.row.below hb) (fun T h => (hB.all T h).keep hb)
  have HE := Lib.hid hE
  clear hE ih hd hc hdd hcc hA hB
  simp only [Nd.val]
  by_cases h1 : k = k'
  · subst h1
    by_cases h2 : nm = nm'
    · subst h2
      by_cases h3 : tx = tx'
      · subst h3
        by_cases h4 : n = n'
        · subst h4
          by_cases h5 : v = v'
          · subst h5
            by_cases h6 : x = x'
            · subst h6
              by_cases h7 : s = s'
              · subst h7
                rw [same_yes]
                generalize sameL ks ks' = R at *
                go_enter Try.func8, Try.ntmps8
                go_upto_region 1 with fail
                go_wp2_with (refine (HE.out _ (((Below.refl _ _).alloc (Nat.le_refl _) _).alloc (by simp <;> omega) _)).mono ?_; rintro e w3 ⟨rfl, hb3⟩)
                go_ret
                exact ⟨rfl, (((Below.refl _ _).alloc (Nat.le_refl _) _).alloc (by simp <;> omega) _).trans (hb3.mono (by simp <;> omega))⟩
              · rw [same_no (by simp [h7])]
                clear HE
                go_enter Try.func8, Try.ntmps8
                go_wp2_with fail
                go_ret
                exact ⟨rfl, ((Below.refl _ _).alloc (Nat.le_refl _) _).alloc (by simp <;> omega) _⟩
            · rw [same_no (by simp [h6])]
              clear HE
              go_enter Try.func8, Try.ntmps8
              go_wp2_with fail
              go_ret
              exact ⟨rfl, ((Below.refl _ _).alloc (Nat.le_refl _) _).alloc (by simp <;> omega) _⟩
          · rw [same_no (by simp [h5])]
            clear HE
            go_enter Try.func8, Try.ntmps8
            go_wp2_with fail
            go_ret
            exact ⟨rfl, ((Below.refl _ _).alloc (Nat.le_refl _) _).alloc (by simp <;> omega) _⟩
        · rw [same_no (by simp [h4])]
          clear HE
          go_enter Try.func8, Try.ntmps8
          go_wp2_with fail
          go_ret
          exact ⟨rfl, ((Below.refl _ _).alloc (Nat.le_refl _) _).alloc (by simp <;> omega) _⟩
      · rw [same_no (by simp [h3])]
        have h3 := ne_toList h3
        clear HE
        go_enter Try.func8, Try.ntmps8
        go_wp2_with fail
        go_ret
        exact ⟨rfl, ((Below.refl _ _).alloc (Nat.le_refl _) _).alloc (by simp <;> omega) _⟩
    · rw [same_no (by simp [h2])]
      have h2 := ne_toList h2
      clear HE
      go_enter Try.func8, Try.ntmps8
      go_wp2_with fail
      go_ret
      exact ⟨rfl, ((Below.refl _ _).alloc (Nat.le_refl _) _).alloc (by simp <;> omega) _⟩
  · rw [same_no (by simp [h1])]
    clear HE
    go_enter Try.func8, Try.ntmps8
    go_wp2_with fail
    go_ret
    exact ⟨rfl, ((Below.refl _ _).alloc (Nat.le_refl _) _).alloc (by simp <;> omega) _⟩
theorem same_any (A B : Nd) (hc : A.cnt ≤ 4000000000000) (w : World) (hA : Nin w A) (hB : Nin w B) : Calls Try.prog 8 #[A.val, B.val] w fun e w' => e = .returned (.bool (same A B)) ∧ Below w.heap.size w w' := by
  have H : ∀ d, SameTo 8 d := fun d => by
    induction d with
    | zero =>
      intro A B h _ w _ _
      obtain ⟨k, l, c, nm, tx, n, v, x, s, a, cap, ks⟩ := A
      unfold Nd.dep at h; omega
    | succ d ih => exact same_step ih
  exact H A.dep A B (Nat.le_refl _) hc w hA hB
theorem sameTo_all (d : Nat) : SameTo 8 d := fun A B _ hc w hA hB => same_any A B hc w hA hB
end Go.Proofs.Ytpjnjcljaoaceaa
