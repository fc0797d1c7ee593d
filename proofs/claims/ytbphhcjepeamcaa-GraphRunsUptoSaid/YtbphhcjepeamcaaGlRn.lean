/- The law on runs: its walk. Asked: what is said here of Run, and the fact. -/
import Derived.Test.YtbphhcjepeamcaaGlRd
namespace Go.Proofs.Ytbphhcjepeamcaa
open Go Go.RowKit Go.Sort
set_option linter.unusedVariables false
theorem tfR0 {n : Nat} : ∀ {l : List (List Bool)}, tfR n l = 0 → ∀ r ∈ l, r.length = n
  | [], _, r, hr => by cases hr
  | x :: l, h, r, hr => by
    unfold tfR at h
    split at h
    · rename_i hx
      rcases List.mem_cons.1 hr with rfl | hr
      · exact hx
      · exact tfR0 h r hr
    · omega
theorem tfL0 {n : Nat} {l : List (List Bool)} (h : tfL l n = 0) : l.length ≤ 64 ∧ ∀ r ∈ l, r.length = n := by
  unfold tfL at h
  split at h
  · omega
  · exact ⟨by omega, tfR0 h⟩
theorem play_rows (g : Gr) : ∀ (l : List (List Bool)) (st : List Bool), ∀ r ∈ playL g st l, r.length = g.outs.length
  | [], _, r, hr => by cases hr
  | x :: l, st, r, hr => by
    rcases List.mem_cons.1 hr with rfl | hr
    · unfold shows; simp
    · exact play_rows g l _ r hr
theorem TR.nilv {v : Value} {w : World} (h : TR [] v w) : ∃ ad cap, v = .slice ad 0 cap := by
  obtain ⟨ad, cap, vs, h1, _⟩ := h
  exact ⟨ad, cap, h1⟩
set_option maxRecDepth 100000 in
set_option maxHeartbeats 4000000 in
theorem runs_law (hF : FactC) (hL : RunC) (g : Gr) (v : Value) (l : List (List Bool)) (vt : Value) (sg : Small g) (hn : l.length ≤ 4000000000) (hnn : ∀ r ∈ l, r.length ≤ 4000000000) (w : World) (hG : GO g v w) (hT : TR l vt w) : Calls Try.prog 8 #[v, vt] w fun e w' => e = .returned (.bool true) ∧ Below w.heap.size w w' := by
  have hG0 := hG
  obtain ⟨a, b, c, d0, e, a', b', c', d', e', rfl, hC, hA⟩ := hG.all
  clear hG
  have HF := Lib.hid hF
  clear hF
  go_enter Try.func8, Try.ntmps8
  go_upto_region 1 with fail
  have bel := (Below.refl w.heap.size w).alloc (Nat.le_refl _) (.cells #[.slice a g.ins.length a', .slice b g.outN.length b', .slice c g.regs.length c', .slice d0 g.ands.length d', .slice e g.outs.length e'] 28)
  have X := GX.new w (.slice a g.ins.length a') (.slice b g.outN.length b') (.slice c g.regs.length c') (.slice d0 g.ands.length d') (.slice e g.outs.length e') 28
  generalize w.alloc (.cells #[.slice a g.ins.length a', .slice b g.outN.length b', .slice c g.regs.length c', .slice d0 g.ands.length d', .slice e g.outs.length e'] 28) = W0 at bel X ⊢
  generalize hk : w.heap.size = k at X ⊢
  have HK := Lib.hid hk
  clear hk
  obtain ⟨x0, x1, x2, x3, x4⟩ := id X
  replace hT := hT.below (bel.mono (by have := HK.out; omega))
  have H1 := Lib.hid (hL g _ l vt W0 sg hn hnn (hG0.below bel) hT)
  go_upto_region 2 with (first | (go_at_call 47; refine H1.out.mono ?_; rintro ee W1 ⟨vl, rfl, R1, hb1⟩; replace bel := bel.trans (hb1.mono bel.size); replace X := X.below hb1; replace hT := hT.below hb1; clear hb1 H1 x0 x1 x2 x3 x4; obtain ⟨x0, x1, x2, x3, x4⟩ := id X))
  have H1 := Lib.hid (fault_any g _ sg W1 (hG0.below bel))
  go_upto_region 3 with (first | (go_at_call 30; refine H1.out.mono ?_; rintro ee W2 ⟨rfl, hb1⟩; replace bel := bel.trans (hb1.mono bel.size); replace X := X.below hb1; replace R1 := R1.below hb1; replace hT := hT.below hb1; clear hb1 H1 x0 x1 x2 x3 x4; obtain ⟨x0, x1, x2, x3, x4⟩ := id X))
  by_cases hf : faultG g = 0
  rotate_left
  · have he : runE g l = faultG g := if_neg hf
    have hr : runR g l = [] := if_neg (fun h => hf (he ▸ h))
    rw [hr] at R1
    rw [he]
    obtain ⟨ad, cp, rfl⟩ := R1.nilv
    clear hr he R1 hG0 hC hA hT
    generalize faultG g = f at hf ⊢
    have hfb : (f == 0) = false := beq_eq_false_iff_ne.2 hf
    have hfc : (f != 0) = true := by simp [bne, hfb]
    go_wp2_with (first | (go_at_call 15; refine (HF.out _).mono ?_; rintro ee w3 ⟨rfl, hb3⟩))
    go_ret
    exact ⟨rfl, bel.trans (hb3.mono bel.size)⟩
  · have he : runE g l = tfL l g.ins.length := if_pos hf
    have vg := vg_of hf
    rw [he, hf]
    have H1 := Lib.hid (traceFault_any l vt g.ins.length hn W2 hT)
    go_upto_region 5 with (first | (go_at_call 48; refine H1.out.mono ?_; rintro ee W3 ⟨rfl, hb1⟩; replace bel := bel.trans (hb1.mono bel.size); replace X := X.below hb1; replace R1 := R1.below hb1; replace hT := hT.below hb1; clear hb1 H1 x0 x1 x2 x3 x4; obtain ⟨x0, x1, x2, x3, x4⟩ := id X))
    by_cases ht : tfL l g.ins.length = 0
    rotate_left
    · have hr : runR g l = [] := if_neg (fun h => ht (he ▸ h))
      rw [hr] at R1
      obtain ⟨ad, cp, rfl⟩ := R1.nilv
      clear hr he R1 hG0 hC hA hT hf
      generalize tfL l g.ins.length = f at ht ⊢
      have hfb : (f == 0) = false := beq_eq_false_iff_ne.2 ht
      have hfc : (f != 0) = true := by simp [bne, hfb]
      go_wp2_with (first | (go_at_call 15; refine (HF.out _).mono ?_; rintro ee w3 ⟨rfl, hb3⟩))
      go_ret
      exact ⟨rfl, bel.trans (hb3.mono bel.size)⟩
    · have hr : runR g l = playL g (beginL g) l := if_pos (he.trans ht)
      obtain ⟨h1, h2⟩ := tfL0 ht
      rw [hr] at R1
      rw [ht]
      have n4 : g.outs.length ≤ 128 := by have := vg.same; have := vg.outN; omega
      have HP := Lib.hid (fun W hb hT => played_any g _ vt l vg (by omega) h1 h2 W (hG0.below hb) hT)
      have HQ := Lib.hid (fun v1 v2 W q1 q2 => by have := sameRows_any (playL g (beginL g) l) (playL g (beginL g) l) v1 v2 (by rw [playL_len]; omega) (by rw [playL_len]; omega) (fun r hr => by rw [play_rows g l _ r hr]; omega) (fun r hr => by rw [play_rows g l _ r hr]; omega) W q1 q2; rwa [decide_eq_true (rfl : playL g (beginL g) l = playL g (beginL g) l)] at this)
      clear hr he hf ht h1 h2 hnn
      generalize playL g (beginL g) l = L at R1 HP HQ
      clear hC hA sg vg
      have H1 := Lib.hid (HF.out W3)
      go_wp2_with (first | (go_at_call 15; refine H1.out.mono ?_; rintro ee W4 ⟨rfl, hb1⟩; replace bel := bel.trans (hb1.mono bel.size); replace X := X.below hb1; replace R1 := R1.below hb1; replace hT := hT.below hb1; clear hb1 H1 x0 x1 x2 x3 x4; obtain ⟨x0, x1, x2, x3, x4⟩ := id X))
      have H1 := Lib.hid (HP.out W4 bel hT)
      go_wp2_with (first | (go_at_call 50; refine H1.out.mono ?_; rintro ee W5 ⟨vh, rfl, R2, hb1⟩; replace bel := bel.trans (hb1.mono bel.size); replace X := X.below hb1; replace R1 := R1.below hb1; clear hb1 H1 x0 x1 x2 x3 x4; obtain ⟨x0, x1, x2, x3, x4⟩ := id X))
      have H1 := Lib.hid (HQ.out _ _ W5 R1 R2)
      go_wp2_with (first | (go_at_call 49; refine H1.out.mono ?_; rintro ee W6 ⟨rfl, hb1⟩; replace bel := bel.trans (hb1.mono bel.size); replace X := X.below hb1; clear hb1 H1 x0 x1 x2 x3 x4; obtain ⟨x0, x1, x2, x3, x4⟩ := id X))
      go_ret
      exact ⟨rfl, bel⟩
end Go.Proofs.Ytbphhcjepeamcaa
