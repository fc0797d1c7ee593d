/- The law on levels: its walk. Asked: what XGlC says of Levels, Depth, and the fact. -/
import Derived.Test.YtimojbjamfckmaaNlHh
import Derived.Test.YtimojbjamfckmaaNlU
import Derived.Test.YtimojbjamfckmaaGlEq
namespace Go.Proofs.Ytimojbjamfckmaa
open Go Go.RowKit Go.Sort
set_option linter.unusedVariables false
set_option maxRecDepth 100000 in
set_option maxHeartbeats 4000000 in
theorem nlevels_law (hF : NfC) (n : Nl) (v : Value) (sg : SmN n) (w : World) (hG : NO n v w) : Calls Try.prog 9 #[v] w fun e w' => e = .returned (.bool true) ∧ Below w.heap.size w w' := by
  have hG0 := hG
  obtain ⟨a, b, c, d0, e, a', b', c', d', e', rfl, hC, hA⟩ := hG.all
  clear hG
  have HF := Lib.hid hF
  clear hF
  go_enter Try.func9, Try.ntmps9
  go_upto_region 1 with fail
  have bel := (Below.refl w.heap.size w).alloc (Nat.le_refl _) (.cells #[.slice a n.ins.length a', .slice b n.outN.length b', .slice c n.flops.length c', .slice d0 n.gates.length d', .slice e n.outs.length e'] 27)
  have X := GX.new w (.slice a n.ins.length a') (.slice b n.outN.length b') (.slice c n.flops.length c') (.slice d0 n.gates.length d') (.slice e n.outs.length e') 27
  generalize w.alloc (.cells #[.slice a n.ins.length a', .slice b n.outN.length b', .slice c n.flops.length c', .slice d0 n.gates.length d', .slice e n.outs.length e'] 27) = W0 at bel X ⊢
  generalize hk : w.heap.size = k at X ⊢
  have HK := Lib.hid hk
  clear hk
  obtain ⟨x0, x1, x2, x3, x4⟩ := id X
  have H1 := Lib.hid (levels_anyN n _ sg W0 (hG0.below bel))
  go_upto_region 2 with (first | (go_at_call 45; refine H1.out.mono ?_; rintro ee W1 ⟨vl, rfl, R1, hb1⟩; replace bel := bel.trans (hb1.mono bel.size); replace X := X.below hb1; clear hb1 H1 x0 x1 x2 x3 x4; obtain ⟨x0, x1, x2, x3, x4⟩ := id X))
  have H1 := Lib.hid (depth_anyN n _ sg W1 (hG0.below bel))
  go_upto_region 3 with (first | (go_at_call 46; refine H1.out.mono ?_; rintro ee W2 ⟨rfl, hb1⟩; replace bel := bel.trans (hb1.mono bel.size); replace X := X.below hb1; replace R1 := R1.below hb1; clear hb1 H1 x0 x1 x2 x3 x4; obtain ⟨x0, x1, x2, x3, x4⟩ := id X))
  have H1 := Lib.hid (faultN_any n _ sg W2 (hG0.below bel))
  go_upto_region 4 with (first | (go_at_call 19; refine H1.out.mono ?_; rintro ee W3 ⟨rfl, hb1⟩; replace bel := bel.trans (hb1.mono bel.size); replace X := X.below hb1; replace R1 := R1.below hb1; clear hb1 H1 x0 x1 x2 x3 x4; obtain ⟨x0, x1, x2, x3, x4⟩ := id X))
  by_cases hf : faultN n = 0
  rotate_left
  · have hl : levR n = [] := if_neg hf
    have hd : depR n = 0 := if_neg hf
    rw [hl] at R1
    rw [hd]
    obtain ⟨ad, cp, rfl, hcp, R2⟩ := R1.open'
    clear hl hd R1 hG0 hC hA
    generalize faultN n = f at hf ⊢
    have hfb : (f == 0) = false := beq_eq_false_iff_ne.2 hf
    have hfc : (f != 0) = true := by simp [bne, hfb]
    go_wp2_with (first | (go_at_call 15; refine (HF.out _).mono ?_; rintro ee w3 ⟨rfl, hb3⟩))
    go_ret
    exact ⟨rfl, bel.trans (hb3.mono bel.size)⟩
  · have hl : levR n = levL n n.gates.length := if_pos hf
    have hd : depR n = depL n := if_pos hf
    have vg := vn_of hf
    rw [hl] at R1
    rw [hd, hf]
    clear hl hd hf
    have HLN := levL_len n n.gates.length (Nat.le_refl _)
    have HSM : (levL n n.gates.length).length ≤ 4000000000 := by have := vg.ins; have := vg.flops; have := vg.gates; rw [HLN]; unfold fstN; omega
    have H4 := Lib.hid (fun W (hb : Below w.heap.size w W) => netHeights_any n _ vg W (hG0.below hb))
    have H5 := Lib.hid (fun W (hb : Below w.heap.size w W) => netHeight_any n _ vg sg W (hG0.below hb))
    have H6 := Lib.hid (fun W (hb : Below w.heap.size w W) => ((H4.out W hb).mono fun ee w' ⟨q, h1, h2, h3⟩ => ⟨q, h1, h2, h3⟩ : Calls Try.prog 48 _ W fun e w' => ∃ v, e = .returned v ∧ RowOf 1 encI (levL n n.gates.length) v w' ∧ Below W.heap.size W w'))
    clear H4
    have HQ := Lib.hid (fun v1 v2 W h1 h2 => by have := equalJ_any (levL n n.gates.length) (levL n n.gates.length) v1 v2 HSM HSM W h1 h2; rwa [decide_eq_true (rfl : levL n n.gates.length = levL n n.gates.length)] at this)
    generalize depL n = D at H5 ⊢
    generalize levL n n.gates.length = L at R1 H6 HQ
    clear hC hA hG0 sg vg HLN HSM
    have H1 := Lib.hid (HF.out W3)
    go_wp2_with (first | (go_at_call 15; refine H1.out.mono ?_; rintro ee W4 ⟨rfl, hb1⟩; replace bel := bel.trans (hb1.mono bel.size); replace X := X.below hb1; replace R1 := R1.below hb1; clear hb1 H1 x0 x1 x2 x3 x4; obtain ⟨x0, x1, x2, x3, x4⟩ := id X))
    have H1 := Lib.hid (H6.out W4 bel)
    go_wp2_with (first | (go_at_call 48; refine H1.out.mono ?_; rintro ee W5 ⟨vh, rfl, R2, hb1⟩; replace bel := bel.trans (hb1.mono bel.size); replace X := X.below hb1; replace R1 := R1.below hb1; clear hb1 H1 x0 x1 x2 x3 x4; obtain ⟨x0, x1, x2, x3, x4⟩ := id X))
    have H1 := Lib.hid (HQ.out _ _ W5 R1 R2)
    go_wp2_with (first | (go_at_call 47; refine H1.out.mono ?_; rintro ee W6 ⟨rfl, hb1⟩; replace bel := bel.trans (hb1.mono bel.size); replace X := X.below hb1; clear hb1 H1 x0 x1 x2 x3 x4; obtain ⟨x0, x1, x2, x3, x4⟩ := id X))
    have H1 := Lib.hid (H5.out W6 bel)
    go_wp2_with (first | (go_at_call 49; refine H1.out.mono ?_; rintro ee W7 ⟨rfl, hb1⟩; replace bel := bel.trans (hb1.mono bel.size); replace X := X.below hb1; clear hb1 H1 x0 x1 x2 x3 x4; obtain ⟨x0, x1, x2, x3, x4⟩ := id X))
    go_ret
    exact ⟨rfl, bel⟩
end Go.Proofs.Ytimojbjamfckmaa
