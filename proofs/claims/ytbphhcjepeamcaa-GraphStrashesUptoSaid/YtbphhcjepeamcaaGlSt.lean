/- The law on graphs whose ands were hashed: its walk. Asked: what is said here of Strash, and the fact. -/
import Derived.Test.YtbphhcjepeamcaaGlCl
import Derived.Test.YtbphhcjepeamcaaGrHs
namespace Go.Proofs.Ytbphhcjepeamcaa
open Go Go.RowKit Go.Sort
set_option linter.unusedVariables false
def strG (g : Gr) : Gr := if faultG g = 0 then hashG g else nilG
def sltG (g : Gr) : List Int := if faultG g = 0 then litsG g else []
def StrashC : Prop := ∀ (g : Gr) (v : Value) (w : World), Small g → GO g v w → Calls Try.prog 64 #[v] w fun e w' => ∃ u vp, e = .returned (.tuple #[u, vp, .int .i64 (faultG g)]) ∧ GO (strG g) u w' ∧ RowOf 1 encI (sltG g) vp w' ∧ Below w.heap.size w w'
theorem hash_small {g : Gr} (vg : VG g) (sg : Small g) : Small (hashG g) := by
  have n4 : g.outs.length ≤ 128 := by have := vg.same; have := vg.outN; omega
  have n2 := vg.regs
  have n3 := vg.ands
  refine ⟨sg.ins, sg.outN, ?_, ?_, ?_, sg.insT, sg.outT, ?_⟩
  · show (g.regs.map _).length ≤ _; rw [List.length_map]; omega
  · have := (hAll_len g g.ands.length (Nat.le_refl _)).2
    show (hAll g g.ands.length).2.length ≤ _; omega
  · show (g.outs.map _).length ≤ _; rw [List.length_map]; omega
  · intro x hx
    obtain ⟨y, hy, rfl⟩ := List.mem_map.1 hx
    exact sg.regT y hy
set_option maxRecDepth 100000 in
set_option maxHeartbeats 8000000 in
theorem strashes_law (hF : FactC) (hC0 : StrashC) (g : Gr) (v : Value) (sg : Small g) (w : World) (hG : GO g v w) : Calls Try.prog 13 #[v] w fun e w' => e = .returned (.bool true) ∧ Below w.heap.size w w' := by
  have hG0 := hG
  obtain ⟨a, b, c, d0, e, a', b', c', d', e', rfl, hC, hA⟩ := hG.all
  clear hG
  have HF := Lib.hid (fun W => hF W)
  clear hF
  go_enter Try.func13, Try.ntmps13
  go_upto_region 1 with fail
  have bel := (Below.refl w.heap.size w).alloc (Nat.le_refl _) (.cells #[.slice a g.ins.length a', .slice b g.outN.length b', .slice c g.regs.length c', .slice d0 g.ands.length d', .slice e g.outs.length e'] 28)
  have X := GX.new w (.slice a g.ins.length a') (.slice b g.outN.length b') (.slice c g.regs.length c') (.slice d0 g.ands.length d') (.slice e g.outs.length e') 28
  generalize w.alloc (.cells #[.slice a g.ins.length a', .slice b g.outN.length b', .slice c g.regs.length c', .slice d0 g.ands.length d', .slice e g.outs.length e'] 28) = W0 at bel X ⊢
  generalize hk : w.heap.size = k at X ⊢
  have HK := Lib.hid hk
  clear hk
  obtain ⟨x0, x1, x2, x3, x4⟩ := id X
  have H1 := Lib.hid (hC0 g _ W0 sg (hG0.below bel))
  go_upto_region 2 with (first | (go_at_call 64; refine H1.out.mono ?_; rintro ee W1 ⟨u, vp, rfl, R0, RP, hb1⟩; have R1 := R0; obtain ⟨pa, pb, pc, pd, pe, pa', pb', pc', pd', pe', rfl, pC, pA⟩ := R1.all; clear R1 pC pA; generalize (strG g).ins.length = l1 at R0 ⊢; generalize (strG g).outN.length = l2 at R0 ⊢; generalize (strG g).regs.length = l3 at R0 ⊢; generalize (strG g).ands.length = l4 at R0 ⊢; generalize (strG g).outs.length = l5 at R0 ⊢; replace bel := bel.trans (hb1.mono bel.size); replace X := X.below hb1; clear hb1 H1 x0 x1 x2 x3 x4; obtain ⟨x0, x1, x2, x3, x4⟩ := id X))
  have hba := (Below.refl _ W1).alloc (Nat.le_refl _) (.cells #[.slice pa l1 pa', .slice pb l2 pb', .slice pc l3 pc', .slice pd l4 pd', .slice pe l5 pe'] 28)
  have Y := GX.new W1 (.slice pa l1 pa') (.slice pb l2 pb') (.slice pc l3 pc') (.slice pd l4 pd') (.slice pe l5 pe') 28
  replace bel := bel.trans (hba.mono bel.size)
  replace X := X.below hba
  replace R0 := R0.below hba
  replace RP := RP.below hba
  clear hba x0 x1 x2 x3 x4
  generalize W1.alloc (.cells #[.slice pa l1 pa', .slice pb l2 pb', .slice pc l3 pc', .slice pd l4 pd', .slice pe l5 pe'] 28) = W2 at bel X Y R0 RP ⊢
  generalize W1.heap.size = k5 at Y ⊢
  obtain ⟨x0, x1, x2, x3, x4⟩ := id X
  have H1 := Lib.hid (fault_any g _ sg W2 (hG0.below bel))
  go_upto_region 3 with (first | (go_at_call 30; refine H1.out.mono ?_; rintro ee W3 ⟨rfl, hb1⟩; replace bel := bel.trans (hb1.mono bel.size); replace X := X.below hb1; replace Y := Y.below hb1; replace R0 := R0.below hb1; replace RP := RP.below hb1; clear hb1 H1 x0 x1 x2 x3 x4; obtain ⟨x0, x1, x2, x3, x4⟩ := id X))
  by_cases hf : faultG g = 0
  rotate_left
  · have hpr : strG g = nilG := if_neg hf
    have hpl : sltG g = [] := if_neg hf
    rw [hpr] at R0
    rw [hpl] at RP
    obtain ⟨ad, cp, rfl, hcp, RP⟩ := RP.open'
    clear hpr hpl RP hG0 hC hA X x0 x1 x2 x3 x4
    generalize faultG g = f at hf ⊢
    have hfb : (f == 0) = false := beq_eq_false_iff_ne.2 hf
    have hfc : (f != 0) = true := by simp [bne, hfb]
    have HSG := Lib.hid (fun v u W q1 q2 => by have := sameGraph_any _ _ v u nil_small nil_small W q1 q2; rwa [same_self2] at this)
    have hl5 := Y.lt
    obtain ⟨y0, y1, y2, y3, y4⟩ := id Y
    go_wp2_with (first | (go_at_call 15; refine (HF.out _).mono ?_; rintro ee wz ⟨rfl, hb1⟩; replace bel := bel.trans (hb1.mono bel.size); replace Y := Y.below hb1; replace R0 := R0.below hb1; clear hb1 hl5 y0 y1 y2 y3 y4; have hl5 := Y.lt; obtain ⟨y0, y1, y2, y3, y4⟩ := id Y) | (go_at_call 32; refine (HSG.out _ _ _ R0 (nil_go _)).mono ?_; rintro ee wy ⟨rfl, hb2⟩; replace bel := bel.trans (hb2.mono bel.size)))
    go_ret
    exact ⟨rfl, bel⟩
  · have hpr : strG g = hashG g := if_pos hf
    have hpl : sltG g = litsG g := if_pos hf
    have vg := vg_of hf
    rw [hpr] at R0
    rw [hpl] at RP
    rw [hf]
    have hsr : Small (hashG g) := hash_small vg sg
    have hpn : (litsG g).length ≤ 4000000000 := by
      have := (hAll_len g g.ands.length (Nat.le_refl _)).1
      unfold litsG
      rw [this]; unfold n0L; have := vg.ins; have := vg.regs; have := vg.ands; omega
    have H3 := Lib.hid (hash_any g _ vg W3 (hG0.below bel))
    have HSG := Lib.hid (fun v u W q1 q2 => by have := sameGraph_any _ _ v u hsr hsr W q1 q2; rwa [same_self2] at this)
    have HSE := Lib.hid (fun v1 v2 W q1 q2 => by have := equalI_any (litsG g) (litsG g) v1 v2 hpn hpn W q1 q2; rwa [decide_eq_true (rfl : litsG g = litsG g)] at this)
    clear hpr hpl hf hsr hpn vg sg hG0 hC hA
    generalize hashG g = G at R0 H3 HSG
    generalize litsG g = PL at RP H3 HSE
    go_upto_region 6 with (first | (go_at_call 65; refine H3.out.mono ?_; rintro ee W4 ⟨ub, vq, rfl, S0, SP, hb1⟩; have S1 := S0; obtain ⟨qa, qb, qc, qd, qe, qa', qb', qc', qd', qe', rfl, qC, qA⟩ := S1.all; clear S1 qC qA; generalize G.ins.length = m1 at S0 ⊢; generalize G.outN.length = m2 at S0 ⊢; generalize G.regs.length = m3 at S0 ⊢; generalize G.ands.length = m4 at S0 ⊢; generalize G.outs.length = m5 at S0 ⊢; replace bel := bel.trans (hb1.mono bel.size); replace X := X.below hb1; replace Y := Y.below hb1; replace R0 := R0.below hb1; replace RP := RP.below hb1; clear hb1 H3 x0 x1 x2 x3 x4))
    have hba := (Below.refl _ W4).alloc (Nat.le_refl _) (.cells #[.slice qa m1 qa', .slice qb m2 qb', .slice qc m3 qc', .slice qd m4 qd', .slice qe m5 qe'] 28)
    have Z := GX.new W4 (.slice qa m1 qa') (.slice qb m2 qb') (.slice qc m3 qc') (.slice qd m4 qd') (.slice qe m5 qe') 28
    replace bel := bel.trans (hba.mono bel.size)
    replace Y := Y.below hba
    have R2 := R0.below hba
    have P2 := RP.below hba
    have G2 := S0.below hba
    have Q2 := SP.below hba
    clear hba R0 RP S0 SP X
    generalize W4.alloc (.cells #[.slice qa m1 qa', .slice qb m2 qb', .slice qc m3 qc', .slice qd m4 qd', .slice qe m5 qe'] 28) = W6 at bel Y Z R2 P2 G2 Q2 ⊢
    generalize W4.heap.size = k8 at Z ⊢
    have hl5 := Y.lt
    have hl8 := Z.lt
    obtain ⟨y0, y1, y2, y3, y4⟩ := id Y
    obtain ⟨z0, z1, z2, z3, z4⟩ := id Z
    go_wp2_with (first | (go_at_call 15; refine (HF.out _).mono ?_; rintro ee wz ⟨rfl, hb1⟩; replace bel := bel.trans (hb1.mono bel.size); replace Y := Y.below hb1; replace Z := Z.below hb1; replace R2 := R2.below hb1; replace P2 := P2.below hb1; replace G2 := G2.below hb1; replace Q2 := Q2.below hb1; clear hb1 hl5 hl8 y0 y1 y2 y3 y4 z0 z1 z2 z3 z4; have hl5 := Y.lt; have hl8 := Z.lt; obtain ⟨y0, y1, y2, y3, y4⟩ := id Y; obtain ⟨z0, z1, z2, z3, z4⟩ := id Z) | (go_at_call 32; refine (HSG.out _ _ _ R2 G2).mono ?_; rintro ee wy ⟨rfl, hb2⟩; replace bel := bel.trans (hb2.mono bel.size); replace P2 := P2.below hb2; replace Q2 := Q2.below hb2) | (go_at_call 22; refine (HSE.out _ _ _ P2 Q2).mono ?_; rintro ee wx ⟨rfl, hb3⟩; replace bel := bel.trans (hb3.mono bel.size)))
    go_ret
    exact ⟨rfl, bel⟩
end Go.Proofs.Ytbphhcjepeamcaa
