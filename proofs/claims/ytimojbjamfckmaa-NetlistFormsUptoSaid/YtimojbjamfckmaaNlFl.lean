/- The law on forms: its walk. Asked: the fact. -/
import Derived.Test.YtimojbjamfckmaaNlCp
import Derived.Test.YtimojbjamfckmaaNlFo
import Derived.Test.YtimojbjamfckmaaNlRm
import Derived.Test.YtimojbjamfckmaaNlU
namespace Go.Proofs.Ytimojbjamfckmaa
open Go Go.RowKit Go.Sort
set_option linter.unusedVariables false
theorem nco_sta (n : Nl) : Sta (fun v w => ∃ m, NO m v w ∧ SameC m n) := fun v w w' ⟨m, h, s⟩ hb => ⟨m, h.below hb, s⟩
theorem SameC.refl (n : Nl) : SameC n n := ⟨rfl, rfl, rfl, rfl, rfl⟩
set_option maxRecDepth 100000 in
set_option maxHeartbeats 8000000 in
theorem nforms_law (hF : NfC) (n : Nl) (v : Value) (sg : SmN n) (h : Nl) (u : Value) (sh : SmN h) (i : Int) (w : World) (hG : NO n v w) (hH : NO h u w) : Calls Try.prog 3 #[v, u, .int .i64 i] w fun e w' => e = .returned (.bool true) ∧ Below w.heap.size w w' := by
  have hG0 := hG
  obtain ⟨a, b, c, d0, e, a', b', c', d', e', rfl, hC, hA⟩ := hG.all
  clear hG
  have hH0 := hH
  obtain ⟨za, zb, zc, zd, ze, za', zb', zc', zd', ze', rfl, zC, zA⟩ := hH.all
  clear hH hC hA zC zA
  have s1 := sg.ins
  have s3 := sg.flops
  have s4 := sg.gates
  go_enter Try.func3, Try.ntmps3
  go_upto_region 1 with fail
  have bel := ((Below.refl w.heap.size w).alloc (Nat.le_refl _) (.cells #[.slice a n.ins.length a', .slice b n.outN.length b', .slice c n.flops.length c', .slice d0 n.gates.length d', .slice e n.outs.length e'] 27)).alloc (by simp) (.cells #[.slice za h.ins.length za', .slice zb h.outN.length zb', .slice zc h.flops.length zc', .slice zd h.gates.length zd', .slice ze h.outs.length ze'] 27)
  have X := (GX.new w (.slice a n.ins.length a') (.slice b n.outN.length b') (.slice c n.flops.length c') (.slice d0 n.gates.length d') (.slice e n.outs.length e') 27).below ((Below.refl _ _).alloc (Nat.le_refl _) (.cells #[.slice za h.ins.length za', .slice zb h.outN.length zb', .slice zc h.flops.length zc', .slice zd h.gates.length zd', .slice ze h.outs.length ze'] 27))
  have Y := GX.new (w.alloc (.cells #[.slice a n.ins.length a', .slice b n.outN.length b', .slice c n.flops.length c', .slice d0 n.gates.length d', .slice e n.outs.length e'] 27)) (.slice za h.ins.length za') (.slice zb h.outN.length zb') (.slice zc h.flops.length zc') (.slice zd h.gates.length zd') (.slice ze h.outs.length ze') 27
  rw [show (w.alloc (.cells #[.slice a n.ins.length a', .slice b n.outN.length b', .slice c n.flops.length c', .slice d0 n.gates.length d', .slice e n.outs.length e'] 27)).heap.size = w.heap.size + 1 by simp] at Y
  generalize (w.alloc (.cells #[.slice a n.ins.length a', .slice b n.outN.length b', .slice c n.flops.length c', .slice d0 n.gates.length d', .slice e n.outs.length e'] 27)).alloc (.cells #[.slice za h.ins.length za', .slice zb h.outN.length zb', .slice zc h.flops.length zc', .slice zd h.gates.length zd', .slice ze h.outs.length ze'] 27) = W0 at bel X Y ⊢
  have H0 := Lib.hid (fun W (hb : Below w.heap.size w W) => hF W)
  have H1 := Lib.hid (fun W (hb : Below w.heap.size w W) => mask_any i W)
  have H2 := Lib.hid (fun W (hb : Below w.heap.size w W) => (room_any i W).mono fun ee w' ⟨q1, q2⟩ => (⟨q1, by rw [q2]; exact Below.refl _ _⟩ : ee = Ending.returned (.int .u64 (U (roomI i))) ∧ Below W.heap.size W w'))
  have H3 := Lib.hid (fun W (hb : Below w.heap.size w W) => form_any n _ sg W (hG0.below hb))
  have H4 := Lib.hid (fun W (hb : Below w.heap.size w W) => faultN_any n _ sg W (hG0.below hb))
  have H5 := Lib.hid (fun W (hb : Below w.heap.size w W) => sameN_any n h _ _ sg sh W (hG0.below hb) (hH0.below hb))
  have H6 := Lib.hid (fun W (hb : Below w.heap.size w W) => sameNetlist_any n h _ _ sg sh W (hG0.below hb) (hH0.below hb))
  have H7 := Lib.hid (fun W (hb : Below w.heap.size w W) => by have := sameN_any n n _ _ sg sg W (hG0.below hb) (hG0.below hb); rwa [(SameC.refl n).same] at this)
  have H8 := Lib.hid (fun W (hb : Below w.heap.size w W) => (copyN_any n _ sg W (hG0.below hb)).mono fun ee w' ⟨u, m, q1, q2, q3, q4⟩ => (⟨u, q1, ⟨m, q2, q3⟩, q4⟩ : ∃ u, ee = Ending.returned u ∧ (∃ m, NO m u w' ∧ SameC m n) ∧ Below W.heap.size W w'))
  have H9 := Lib.hid (fun u W (hb : Below w.heap.size w W) (hu : ∃ m, NO m u W ∧ SameC m n) => by obtain ⟨m, hm, hs⟩ := hu; have := sameNetlist_any m n u _ (hs.small sg) sg W hm (hG0.below hb); rwa [hs.same] at this)
  have H10 := Lib.hid (fun W (hb : Below w.heap.size w W) => by have := nfirst_any n _ sg W (hG0.below hb); rwa [show ((fstN n : Nat) : Int) = 2 + (n.ins.length : Int) + (n.flops.length : Int) by unfold fstN; push_cast; rfl] at this)
  have H11 := Lib.hid (fun W (hb : Below w.heap.size w W) => by have := nnets_any n _ sg W (hG0.below hb); rwa [show ((netsN n : Nat) : Int) = 2 + (n.ins.length : Int) + (n.flops.length : Int) + (n.gates.length : Int) by unfold netsN fstN; push_cast; rfl] at this)
  have hw1 : IntKind.i64.wrap (2 + (n.ins.length : Int)) = 2 + (n.ins.length : Int) := IntWalk.i64_in _ (by omega)
  have hw2 : IntKind.i64.wrap (2 + (n.ins.length : Int) + (n.flops.length : Int)) = 2 + (n.ins.length : Int) + (n.flops.length : Int) := IntWalk.i64_in _ (by omega)
  have hw3 : IntKind.i64.wrap (2 + (n.ins.length : Int) + (n.flops.length : Int) + (n.gates.length : Int)) = 2 + (n.ins.length : Int) + (n.flops.length : Int) + (n.gates.length : Int) := IntWalk.i64_in _ (by omega)
  clear hF
  generalize U (roomI i) = r at H1 H2
  generalize faultN n = f at H3 H4
  generalize sameNl n h = s at H5 H6
  have HST := Lib.hid (nco_sta n)
  obtain ⟨x0, x1, x2, x3, x4⟩ := id X
  obtain ⟨y0, y1, y2, y3, y4⟩ := id Y
  have HB := Lib.hid (fun d os => bel.trans ((below_regrown W0 d os).mono bel.size))
  have g0 := cell_regrown x0
  have g1 := cell_regrown x1
  have g2 := cell_regrown x2
  have g3 := cell_regrown x3
  have g4 := cell_regrown x4
  have q0 := cell_regrown y0
  have q1 := cell_regrown y1
  have q2 := cell_regrown y2
  have q3 := cell_regrown y3
  have q4 := cell_regrown y4
  clear x0 x1 x2 x3 x4 y0 y1 y2 y3 y4
  refine wp_region_rel 59 (by kernel_rfl) (by kernel_rfl) ?_
  simp only [List.take_succ_cons, List.take_zero, List.drop_succ_cons, List.drop_zero]
  (refine rel_fix0 (fun K hK => ?_); go_simp; apply Exists.intro; refine ⟨fun _ _ => ?_, hK _ ?_⟩; (with_reducible exact ret_fix (H0.out _ (HB.out _ _))); clear hK K)
  (refine rel_fix0 (fun K hK => ?_); go_simp; refine hK _ ?_; clear hK K)
  (refine rel_fix0 (fun K hK => ?_); go_simp; refine hK _ ?_; clear hK K)
  (refine rel_fix0 (fun K hK => ?_); go_simp; apply Exists.intro; refine ⟨fun _ _ => ?_, hK _ ?_⟩; (with_reducible exact ret_fix (H1.out _ (HB.out _ _))); clear hK K)
  (refine rel_fix0 (fun K hK => ?_); go_simp; refine hK _ ?_; clear hK K)
  (refine rel_fix0 (fun K hK => ?_); go_simp; apply Exists.intro; refine ⟨fun _ _ => ?_, hK _ ?_⟩; (with_reducible exact ret_fix (H2.out _ (HB.out _ _))); clear hK K)
  (refine rel_fix0 (fun K hK => ?_); go_simp; refine hK _ ?_; clear hK K)
  (refine rel_fix0 (fun K hK => ?_); go_simp; refine hK _ ?_; clear hK K)
  (refine rel_fix0 (fun K hK => ?_); go_simp; refine hK _ ?_; clear hK K)
  (refine rel_fix0 (fun K hK => ?_); go_simp; refine hK _ ?_; clear hK K)
  (refine rel_fix0 (fun K hK => ?_); go_simp; apply Exists.intro; refine ⟨fun _ _ => ?_, hK _ ?_⟩; (with_reducible exact ret_fix (H3.out _ (HB.out _ _))); clear hK K)
  (refine rel_fix0 (fun K hK => ?_); go_simp; refine hK _ ?_; clear hK K)
  (refine rel_fix0 (fun K hK => ?_); go_simp; apply Exists.intro; refine ⟨fun _ _ => ?_, hK _ ?_⟩; (with_reducible exact ret_fix (H4.out _ (HB.out _ _))); clear hK K)
  (refine rel_fix0 (fun K hK => ?_); go_simp; refine hK _ ?_; clear hK K)
  (refine rel_fix0 (fun K hK => ?_); go_simp; refine hK _ ?_; clear hK K)
  (refine rel_fix0 (fun K hK => ?_); go_simp; refine hK _ ?_; clear hK K)
  (refine rel_fix0 (fun K hK => ?_); go_simp; refine hK _ ?_; clear hK K)
  (refine rel_fix0 (fun K hK => ?_); go_simp; refine hK _ ?_; clear hK K)
  (refine rel_fix0 (fun K hK => ?_); go_simp; apply Exists.intro; refine ⟨fun _ _ => ?_, hK _ ?_⟩; (with_reducible exact ret_fix (H5.out _ (HB.out _ _))); clear hK K)
  (refine rel_fix0 (fun K hK => ?_); go_simp; refine hK _ ?_; clear hK K)
  (refine rel_fix0 (fun K hK => ?_); go_simp; refine hK _ ?_; clear hK K)
  (refine rel_fix0 (fun K hK => ?_); go_simp; apply Exists.intro; refine ⟨fun _ _ => ?_, hK _ ?_⟩; (with_reducible exact ret_fix (H6.out _ (HB.out _ _))); clear hK K)
  (refine rel_fix0 (fun K hK => ?_); go_simp; refine hK _ ?_; clear hK K)
  (refine rel_fix0 (fun K hK => ?_); go_simp; refine hK _ ?_; clear hK K)
  (refine rel_fix0 (fun K hK => ?_); go_simp; refine hK _ ?_; clear hK K)
  (refine rel_fix0 (fun K hK => ?_); go_simp; refine hK _ ?_; clear hK K)
  (refine rel_fix0 (fun K hK => ?_); go_simp; refine hK _ ?_; clear hK K)
  (refine rel_fix0 (fun K hK => ?_); go_simp; apply Exists.intro; refine ⟨fun _ _ => ?_, hK _ ?_⟩; (with_reducible exact ret_fix (H7.out _ (HB.out _ _))); clear hK K)
  (refine rel_fix0 (fun K hK => ?_); go_simp; refine hK _ ?_; clear hK K)
  (refine rel_fix0 (fun K hK => ?_); go_simp; refine hK _ ?_; clear hK K)
  (refine rel_fix0 (fun K hK => ?_); go_simp; refine hK _ ?_; clear hK K)
  refine rel_fact [] (fun v w => ∃ m, NO m v w ∧ SameC m n) 38 rfl (by simp [Act.put]) (HST.out) (by rfl) (by kernel_rfl) (by kernel_rfl) ?_ ?_
  · intro d os
    simp only [relAll]
    go_simp
    exact ret_fact (H8.out _ (HB.out _ _))
  (refine rel_fix (by kernel_rfl) (by kernel_rfl) (fun K hK => ?_); go_simp; refine hK _ ?_; clear hK K)
  refine rel_use [(38, _)] (.bool true) (by rfl) (by kernel_rfl) (by kernel_rfl) ?_ ?_
  · intro d os
    simp only [relAll]
    rintro u1 r1
    go_simp
    exact ret_fix (H9.out _ _ (HB.out _ _) r1)
  (refine rel_fix (by kernel_rfl) (by kernel_rfl) (fun K hK => ?_); go_simp; refine hK _ ?_; clear hK K)
  (refine rel_fix (by kernel_rfl) (by kernel_rfl) (fun K hK => ?_); go_simp; refine hK _ ?_; clear hK K)
  (refine rel_fix (by kernel_rfl) (by kernel_rfl) (fun K hK => ?_); go_simp; refine hK _ ?_; clear hK K)
  refine rel_use [] (.int .i64 (2 + (n.ins.length : Int) + (n.flops.length : Int) + (n.gates.length : Int))) (by rfl) (by kernel_rfl) (by kernel_rfl) ?_ ?_
  · intro d os
    simp only [relAll]
    go_simp
    exact ret_fix (H11.out _ (HB.out _ _))
  (refine rel_fix (by kernel_rfl) (by kernel_rfl) (fun K hK => ?_); go_simp; refine hK _ ?_; clear hK K)
  refine rel_use [] (.int .i64 (2 + (n.ins.length : Int) + (n.flops.length : Int))) (by rfl) (by kernel_rfl) (by kernel_rfl) ?_ ?_
  · intro d os
    simp only [relAll]
    go_simp
    exact ret_fix (H10.out _ (HB.out _ _))
  (refine rel_fix (by kernel_rfl) (by kernel_rfl) (fun K hK => ?_); go_simp; refine hK _ ?_; clear hK K)
  (refine rel_fix (by kernel_rfl) (by kernel_rfl) (fun K hK => ?_); go_simp; refine hK _ ?_; clear hK K)
  (refine rel_fix (by kernel_rfl) (by kernel_rfl) (fun K hK => ?_); go_simp; refine hK _ ?_; clear hK K)
  (refine rel_fix (by kernel_rfl) (by kernel_rfl) (fun K hK => ?_); go_simp; refine hK _ ?_; clear hK K)
  (refine rel_fix (by kernel_rfl) (by kernel_rfl) (fun K hK => ?_); go_simp; refine hK _ ?_; clear hK K)
  (refine rel_fix (by kernel_rfl) (by kernel_rfl) (fun K hK => ?_); go_simp; refine hK _ ?_; clear hK K)
  (refine rel_fix (by kernel_rfl) (by kernel_rfl) (fun K hK => ?_); go_simp; refine hK _ ?_; clear hK K)
  (refine rel_fix (by kernel_rfl) (by kernel_rfl) (fun K hK => ?_); go_simp; refine hK _ ?_; clear hK K)
  refine rel_use [] (.int .i64 (2 + (n.ins.length : Int) + (n.flops.length : Int))) (by rfl) (by kernel_rfl) (by kernel_rfl) ?_ ?_
  · intro d os
    simp only [relAll]
    go_simp
    exact ret_fix (H10.out _ (HB.out _ _))
  (refine rel_fix (by kernel_rfl) (by kernel_rfl) (fun K hK => ?_); go_simp; refine hK _ ?_; clear hK K)
  (refine rel_fix (by kernel_rfl) (by kernel_rfl) (fun K hK => ?_); go_simp; refine hK _ ?_; clear hK K)
  (refine rel_fix (by kernel_rfl) (by kernel_rfl) (fun K hK => ?_); go_simp; refine hK _ ?_; clear hK K)
  (refine rel_fix (by kernel_rfl) (by kernel_rfl) (fun K hK => ?_); go_simp; refine hK _ ?_; clear hK K)
  (refine rel_fix (by kernel_rfl) (by kernel_rfl) (fun K hK => ?_); go_simp; refine hK _ ?_; clear hK K)
  (refine rel_fix (by kernel_rfl) (by kernel_rfl) (fun K hK => ?_); go_simp; refine hK _ ?_; clear hK K)
  (refine rel_fix (by kernel_rfl) (by kernel_rfl) (fun K hK => ?_); go_simp; refine hK _ ?_; clear hK K)
  (refine rel_fix (by kernel_rfl) (by kernel_rfl) (fun K hK => ?_); go_simp; refine hK _ ?_; clear hK K)
  (refine rel_fix (by kernel_rfl) (by kernel_rfl) (fun K hK => ?_); go_simp; refine hK _ ?_; clear hK K)
  (refine rel_fix (by kernel_rfl) (by kernel_rfl) (fun K hK => ?_); go_simp; refine hK _ ?_; clear hK K)
  refine rel_nil ?_
  intro d os
  simp only [relAll]
  rintro v38 -
  replace bel := HB.out d os
  clear g0 g1 g2 g3 g4 q0 q1 q2 q3 q4 HB
  generalize grow (redrawn _ d) os = WZ at bel ⊢
  go_wp2_with fail
  go_ret
  exact ⟨rfl, bel⟩
end Go.Proofs.Ytimojbjamfckmaa
