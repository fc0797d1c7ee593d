/- The law on levels: its walk. Asked: what XGlC says of Levels, Depth, and the fact. -/
import Derived.Test.YtbphhcjepeamcaaGlC
import Derived.Test.YtbphhcjepeamcaaGlEq
namespace Go.Proofs.Ytbphhcjepeamcaa
open Go Go.RowKit Go.Sort
set_option linter.unusedVariables false
set_option maxRecDepth 100000 in
set_option maxHeartbeats 4000000 in
theorem levels_law (hF : FactC) (hL : LevelsC) (hD : DepthC) (g : Gr) (v : Value) (sg : Small g) (w : World) (hG : GO g v w) : Calls Try.prog 9 #[v] w fun e w' => e = .returned (.bool true) ∧ Below w.heap.size w w' := by
  have hG0 := hG
  obtain ⟨a, b, c, d0, e, a', b', c', d', e', rfl, hC, hA⟩ := hG.all
  clear hG
  have HF := Lib.hid hF
  clear hF
  go_enter Try.func9, Try.ntmps9
  go_upto_region 1 with fail
  have bel := (Below.refl w.heap.size w).alloc (Nat.le_refl _) (.cells #[.slice a g.ins.length a', .slice b g.outN.length b', .slice c g.regs.length c', .slice d0 g.ands.length d', .slice e g.outs.length e'] 28)
  have X := GX.new w (.slice a g.ins.length a') (.slice b g.outN.length b') (.slice c g.regs.length c') (.slice d0 g.ands.length d') (.slice e g.outs.length e') 28
  generalize w.alloc (.cells #[.slice a g.ins.length a', .slice b g.outN.length b', .slice c g.regs.length c', .slice d0 g.ands.length d', .slice e g.outs.length e'] 28) = W0 at bel X ⊢
  generalize hk : w.heap.size = k at X ⊢
  have HK := Lib.hid hk
  clear hk
  obtain ⟨x0, x1, x2, x3, x4⟩ := id X
  have H1 := Lib.hid (hL g _ W0 sg (hG0.below bel))
  go_upto_region 2 with (first | (go_at_call 51; refine H1.out.mono ?_; rintro ee W1 ⟨vl, rfl, R1, hb1⟩; replace bel := bel.trans (hb1.mono bel.size); replace X := X.below hb1; clear hb1 H1 x0 x1 x2 x3 x4; obtain ⟨x0, x1, x2, x3, x4⟩ := id X))
  have H1 := Lib.hid (hD g _ W1 sg (hG0.below bel))
  go_upto_region 3 with (first | (go_at_call 52; refine H1.out.mono ?_; rintro ee W2 ⟨rfl, hb1⟩; replace bel := bel.trans (hb1.mono bel.size); replace X := X.below hb1; replace R1 := R1.below hb1; clear hb1 H1 x0 x1 x2 x3 x4; obtain ⟨x0, x1, x2, x3, x4⟩ := id X))
  have H1 := Lib.hid (fault_any g _ sg W2 (hG0.below bel))
  go_upto_region 4 with (first | (go_at_call 30; refine H1.out.mono ?_; rintro ee W3 ⟨rfl, hb1⟩; replace bel := bel.trans (hb1.mono bel.size); replace X := X.below hb1; replace R1 := R1.below hb1; clear hb1 H1 x0 x1 x2 x3 x4; obtain ⟨x0, x1, x2, x3, x4⟩ := id X))
  by_cases hf : faultG g = 0
  rotate_left
  · have hl : levelsR g = [] := if_neg hf
    have hd : depthR g = 0 := if_neg hf
    rw [hl] at R1
    rw [hd]
    obtain ⟨ad, cp, rfl, hcp, R2⟩ := R1.open'
    clear hl hd R1 hG0 hC hA
    generalize faultG g = f at hf ⊢
    have hfb : (f == 0) = false := beq_eq_false_iff_ne.2 hf
    have hfc : (f != 0) = true := by simp [bne, hfb]
    go_wp2_with (first | (go_at_call 15; refine (HF.out _).mono ?_; rintro ee w3 ⟨rfl, hb3⟩))
    go_ret
    exact ⟨rfl, bel.trans (hb3.mono bel.size)⟩
  · have hl : levelsR g = htsL g g.ands.length := if_pos hf
    have hd : depthR g = heightG g := if_pos hf
    have vg := vg_of hf
    rw [hl] at R1
    rw [hd, hf]
    clear hl hd hf
    have HLN := htsL_len g g.ands.length (Nat.le_refl _)
    have HSM : (htsL g g.ands.length).length ≤ 4000000000 := by have := vg.ins; have := vg.regs; have := vg.ands; omega
    have H4 := Lib.hid (fun W (hb : Below w.heap.size w W) => heights_any g _ vg W (hG0.below hb))
    have H5 := Lib.hid (fun W (hb : Below w.heap.size w W) => height_any g _ vg W (hG0.below hb))
    have H6 := Lib.hid (fun W (hb : Below w.heap.size w W) => ((H4.out W hb).mono fun ee w' ⟨q, h1, h2, h3⟩ => ⟨_, h1, h2.rowOf _ (HLN.trans (by omega)), h3⟩ : Calls Try.prog 54 _ W fun e w' => ∃ v, e = .returned v ∧ RowOf 1 encI (htsL g g.ands.length) v w' ∧ Below W.heap.size W w'))
    clear H4
    have HQ := Lib.hid (fun v1 v2 W h1 h2 => by have := equalJ_any (htsL g g.ands.length) (htsL g g.ands.length) v1 v2 HSM HSM W h1 h2; rwa [decide_eq_true (rfl : htsL g g.ands.length = htsL g g.ands.length)] at this)
    generalize heightG g = D at H5 ⊢
    generalize htsL g g.ands.length = L at R1 H6 HQ
    clear hC hA hG0 sg vg HLN HSM
    have H1 := Lib.hid (HF.out W3)
    go_wp2_with (first | (go_at_call 15; refine H1.out.mono ?_; rintro ee W4 ⟨rfl, hb1⟩; replace bel := bel.trans (hb1.mono bel.size); replace X := X.below hb1; replace R1 := R1.below hb1; clear hb1 H1 x0 x1 x2 x3 x4; obtain ⟨x0, x1, x2, x3, x4⟩ := id X))
    have H1 := Lib.hid (H6.out W4 bel)
    go_wp2_with (first | (go_at_call 54; refine H1.out.mono ?_; rintro ee W5 ⟨vh, rfl, R2, hb1⟩; replace bel := bel.trans (hb1.mono bel.size); replace X := X.below hb1; replace R1 := R1.below hb1; clear hb1 H1 x0 x1 x2 x3 x4; obtain ⟨x0, x1, x2, x3, x4⟩ := id X))
    have H1 := Lib.hid (HQ.out _ _ W5 R1 R2)
    go_wp2_with (first | (go_at_call 53; refine H1.out.mono ?_; rintro ee W6 ⟨rfl, hb1⟩; replace bel := bel.trans (hb1.mono bel.size); replace X := X.below hb1; clear hb1 H1 x0 x1 x2 x3 x4; obtain ⟨x0, x1, x2, x3, x4⟩ := id X))
    have H1 := Lib.hid (H5.out W6 bel)
    go_wp2_with (first | (go_at_call 55; refine H1.out.mono ?_; rintro ee W7 ⟨rfl, hb1⟩; replace bel := bel.trans (hb1.mono bel.size); replace X := X.below hb1; clear hb1 H1 x0 x1 x2 x3 x4; obtain ⟨x0, x1, x2, x3, x4⟩ := id X))
    go_ret
    exact ⟨rfl, bel⟩
end Go.Proofs.Ytbphhcjepeamcaa
