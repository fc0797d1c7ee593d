/- The program's values: the words of all nodes of a valid graph. Conditions: the graph is valid, there is a word for each input and register. -/
import Derived.Test.YtbphhcjepeamcaaGpV
namespace Go.Proofs.Ytbphhcjepeamcaa
open Go Go.RowKit Go.Sort
set_option linter.unusedVariables false

set_option maxRecDepth 100000 in
set_option maxHeartbeats 8000000 in
theorem values_any (g : Gr) (v : Value) (ins st : List (BitVec 64)) (vi vs : Value) (vg : VG g) (sg : Small g) (hi1 : ins.length = g.ins.length) (hs1 : st.length = g.regs.length) (w : World) (hG : GO g v w) (h1 : RowC (fun b => Value.int .u64 (U b)) ins vi w) (h2 : RowC (fun b => Value.int .u64 (U b)) st vs w) : Calls Try.prog 85 #[v, vi, vs] w fun e w' => ∃ u, e = .returned u ∧ OwnK w.heap.size 66 1 encW w' u (valsW g (0#64 :: (ins ++ st)) g.ands.length) ∧ Below w.heap.size w w' := by
  have hG0 := hG
  obtain ⟨a, b, c, d0, e, a', b', c', d', e', rfl, hC, hA⟩ := hG.all
  clear hG
  obtain ⟨ai, ci, rfl, hic, hin, hir⟩ := h1
  obtain ⟨az, cz, rfl, hsc, hsn, hsr⟩ := h2
  have n1 := vg.ins
  have n2 := vg.regs
  have n3 := vg.ands
  have hli : ins.length ≤ 128 := by omega
  have hls : st.length ≤ 288 := by omega
  have HI1 := Lib.hid hi1
  have HS1 := Lib.hid hs1
  clear hi1 hs1
  go_enter Try.func85, Try.ntmps85
  go_upto_region 1 with fail
  have bel := (Below.refl w.heap.size w).alloc (Nat.le_refl _) (.cells #[.slice a g.ins.length a', .slice b g.outN.length b', .slice c g.regs.length c', .slice d0 g.ands.length d', .slice e g.outs.length e'] 28)
  have X := GX.new w (.slice a g.ins.length a') (.slice b g.outN.length b') (.slice c g.regs.length c') (.slice d0 g.ands.length d') (.slice e g.outs.length e') 28
  generalize w.alloc (.cells #[.slice a g.ins.length a', .slice b g.outN.length b', .slice c g.regs.length c', .slice d0 g.ands.length d', .slice e g.outs.length e'] 28) = W0 at bel X ⊢
  generalize hk : w.heap.size = k at X ⊢
  have HK := Lib.hid hk
  clear hk
  obtain ⟨x0, x1, x2, x3, x4⟩ := id X
  have H1 := Lib.hid (nodes_ok g _ W0 sg (hG0.below bel))
  have hmk : ∀ W : World, (Instr.makeSlice 46 (.int .i64 1) (.int .i64 (1 + (g.ins.length : Int) + (g.regs.length : Int) + (g.ands.length : Int)))).run Try.prog W = .ok (.slice (some ⟨W.heap.size, 0, none⟩) 1 (n0L g + g.ands.length)) (W.alloc (.cells (madeCells #[.int .u64 0] (n0L g + g.ands.length)) 66)) := by
    intro W
    have := mkU W 1 (n0L g + g.ands.length) (by unfold n0L; omega) (by unfold n0L; omega)
    rwa [show ((1 : Nat) : Int) = 1 from rfl, show (((n0L g + g.ands.length : Nat)) : Int) = 1 + (g.ins.length : Int) + (g.regs.length : Int) + (g.ands.length : Int) by unfold n0L; omega] at this
  go_upto_region 2 with (first | (go_at_call 21; refine H1.out.mono ?_; rintro ee W1 ⟨rfl, hb1⟩))
  have bel1 := bel.trans (hb1.mono bel.size)
  have X1 := X.below hb1
  have O0 : OwnK W1.heap.size 66 1 encW (W1.alloc (.cells (madeCells #[.int .u64 0] (n0L g + g.ands.length)) 66)) (.slice (some ⟨W1.heap.size, 0, none⟩) 1 (n0L g + g.ands.length)) [0#64] := own_made (f := fun b : BitVec 64 => Value.int .u64 (U b)) W1 W1.heap.size (Nat.le_refl _) 66 0#64 1 _ (by unfold n0L; omega) (by unfold maxLen n0L; omega)
  have bA := (Below.refl W1.heap.size W1).alloc (Nat.le_refl _) (.cells (madeCells #[.int .u64 0] (n0L g + g.ands.length)) 66)
  have HX := Lib.hid (fun W (hb : Below W1.heap.size W1 W) => X1.below hb)
  have HA := Lib.hid (fun W (hb : Below W1.heap.size W1 W) => hA.ands.below (bel1.trans (hb.mono bel1.size)))
  have HI := Lib.hid (fun W (hb : Below W1.heap.size W1 W) => hir.below (bel1.trans (hb.mono bel1.size)))
  have HS := Lib.hid (fun W (hb : Below W1.heap.size W1 W) => hsr.below (bel1.trans (hb.mono bel1.size)))
  have HBEL := Lib.hid bel1
  have hLx : (0#64 :: (ins ++ st)).length = n0L g := by simp only [List.length_cons, List.length_append, HI1.out, HS1.out]; unfold n0L; omega
  have HN0 : Hid (n0L g = 1 + g.ins.length + g.regs.length) := Lib.hid rfl
  clear x0 x1 x2 x3 x4 X X1 H1 hmk hb1 bel bel1 hA hG0 hC hir hsr HI1 HS1
  generalize W1.alloc (.cells (madeCells #[.int .u64 0] (n0L g + g.ands.length)) 66) = W2 at O0 bA ⊢
  obtain ⟨i0, ihi, ihz, ihs, ihb⟩ := infoMU_parts
  go_cut [7] (fun s7 wx => OwnK W1.heap.size 66 1 encW wx s7 (0#64 :: (ins ++ st)) ∧ Below W1.heap.size W1 wx)
  case first =>
    have hs2 := bA.size
    have HI2 := HI.out _ bA
    go_wp2_with (at_builtin; refine wpList_append_row2 (f := fun b : BitVec 64 => Value.int .u64 (U b)) (fun _ => rfl) rfl _ _ 46 rfl (W1.heap.size) 66 i0 (.int .u64 0) 8 Try.underlying46 ihi ihz ihs ihb (by decide) _ ([0#64]) rfl O0.own _ ins _ rfl hin hic HI2 (by unfold maxLen; first | omega | (simp; omega)) (by first | omega | (simp; omega)) (by first | omega | (simp; omega)) ?_)
    intro v5 w5 O5 hb5 hg5
    obtain ⟨ad5, cp5, hv5⟩ := O5.ownK.slice
    subst hv5
    have B5 := bA.trans hb5
    have hs5 := B5.size
    have HS2 := HS.out _ B5
    go_wp2_with (at_builtin; refine wpList_append_row2 (f := fun b : BitVec 64 => Value.int .u64 (U b)) (fun _ => rfl) rfl _ _ 46 rfl (W1.heap.size) 66 i0 (.int .u64 0) 8 Try.underlying46 ihi ihz ihs ihb (by decide) _ ([0#64] ++ ins) rfl O5 _ st _ rfl hsn hsc HS2 (by unfold maxLen; first | omega | (simp; omega)) (by first | omega | (simp; omega)) (by first | omega | (simp; omega)) ?_)
    intro v6 w6 O6 hb6 hg6
    have O7 : OwnK W1.heap.size 66 1 encW w6 v6 (0#64 :: (ins ++ st)) := by simpa using O6.ownK
    have B6 := B5.trans hb6
    clear O5 O6 hb5 hb6 hg5 hg6
    go_wp2_with fail
    go_meet
    exact ⟨O7, B6⟩
  case rest =>
  obtain ⟨O1, B1⟩ := hcut
  clear O0 bA
  obtain ⟨x0, x1, x2, x3, x4⟩ := HX.out _ B1
  go_upto_block 0 with fail
  clear x0 x1 x2 x3 x4
  generalize hxx : 0#64 :: (ins ++ st) = x at O1 hLx
  have HXX := Lib.hid hxx
  clear hxx
  go_wp2_with fail
  go_loopw [7, 21] (fun u i wr => ∃ j : Nat, j ≤ g.ands.length ∧ i = .int .i64 (j : Int) ∧ Hid (OwnK W1.heap.size 66 1 encW wr u (valsW g x j)) ∧ Hid (Below W1.heap.size W1 wr)) (fun _ i _ => g.ands.length - (intOf i).toNat)
  case atStart => exact ⟨0, Nat.zero_le _, rfl, Lib.hid O1, Lib.hid B1⟩
  case round =>
    clear O1 B1
    obtain ⟨j, hj, rfl, hO, hB⟩ := hrel
    rename World => WR
    have hj0 : (0 : Int) ≤ (j : Int) := by omega
    by_cases hlt : j < g.ands.length
    · have hji : (j : Int) < (g.ands.length : Int) := by omega
      have HL := Lib.hid (valsW_len g x j hj)
      obtain ⟨ad, cp, hv⟩ := hO.out.slice
      subst hv
      have hlit := vg.lits j hlt
      have hlin := lit_in vg hlt
      have HT := Lib.hid (show valsW g x (j + 1) = valsW g x j ++ [litW (valsW g x j) g.ands[j]!.1 &&& litW (valsW g x j) g.ands[j]!.2] from valsW_succ g x j hlt)
      obtain ⟨bb, oo, hdd, hcell⟩ := (HA.out _ hB.out).pick (by omega)
      subst hdd
      have c0 := hcell j hlt 0 _ rfl
      have c1 := hcell j hlt 1 _ rfl
      simp only [Nat.add_zero] at c0
      clear hcell
      have hlx := hLx
      generalize valsW g x j = V at hO HL HT
      generalize g.ands[j]! = p at c0 c1 HT hlit hlin
      obtain ⟨p1, p2⟩ := p
      simp only at c0 c1 hlit HT hlin
      have hVL : V.length ≤ 5000 := by have := HL.out; have := HN0.out; omega
      go_upto_region 6 with fail
      have bA := (Below.refl WR.heap.size WR).alloc (Nat.le_refl _) (.cells #[.int .i64 p1, .int .i64 p2] 110)
      have y0 : (WR.alloc (.cells #[.int .i64 p1, .int .i64 p2] 110)).cell? ⟨WR.heap.size, 0, none⟩ = some (.int .i64 p1) := by go_simp
      have y1 : (WR.alloc (.cells #[.int .i64 p1, .int .i64 p2] 110)).cell? ⟨WR.heap.size, 1, none⟩ = some (.int .i64 p2) := by go_simp
      have O2 := hO.out.below bA
      have B2 := hB.out.trans (bA.mono hB.out.size)
      clear bA c0 c1 hO hB
      generalize WR.alloc (.cells #[.int .i64 p1, .int .i64 p2] 110) = WS at O2 B2 y0 y1 ⊢
      generalize WR.heap.size = q10 at y0 y1 ⊢
      have N1 := Lib.hid (fun W (hb : Below WS.heap.size WS W) => value_any V _ p1 hlit.1.1 (by have := HL.out; omega) W ((O2.row lenW).below hb))
      have N2 := Lib.hid (fun W (hb : Below WS.heap.size WS W) => value_any V _ p2 hlit.2.1 (by have := HL.out; omega) W ((O2.row lenW).below hb))
      clear hlit hlin hlx
      generalize litW V p1 = a1 at N1 HT
      generalize litW V p2 = a2 at N2 HT
      have HBS := Lib.hid (fun d os => below_regrown WS d os)
      have g0 := cell_regrown y0
      have g1 := cell_regrown y1
      clear y0 y1
      refine wp_region_rel 11 (by kernel_rfl) (by kernel_rfl) ?_
      simp only [List.take_succ_cons, List.take_zero, List.drop_succ_cons, List.drop_zero]
      (refine rel_fix0 (fun K hK => ?_); go_simp; refine hK _ ?_; clear hK K)
      (refine rel_fix0 (fun K hK => ?_); go_simp; refine hK _ ?_; clear hK K)
      (refine rel_fix0 (fun K hK => ?_); go_simp; refine hK _ ?_; clear hK K)
      (refine rel_fix0 (fun K hK => ?_); go_simp; refine hK _ ?_; clear hK K)
      (refine rel_fix0 (fun K hK => ?_); go_simp; apply Exists.intro; refine ⟨fun _ _ => ?_, hK _ ?_⟩; (with_reducible exact ret_fix (N1.out _ (HBS.out _ _))); clear hK K)
      (refine rel_fix0 (fun K hK => ?_); go_simp; refine hK _ ?_; clear hK K)
      (refine rel_fix0 (fun K hK => ?_); go_simp; refine hK _ ?_; clear hK K)
      (refine rel_fix0 (fun K hK => ?_); go_simp; refine hK _ ?_; clear hK K)
      (refine rel_fix0 (fun K hK => ?_); go_simp; apply Exists.intro; refine ⟨fun _ _ => ?_, hK _ ?_⟩; (with_reducible exact ret_fix (N2.out _ (HBS.out _ _))); clear hK K)
      (refine rel_fix0 (fun K hK => ?_); go_simp; refine hK _ ?_; clear hK K)
      refine rel_fact [] (FK [.int .u64 (U (a1 &&& a2))]) 35 rfl (by simp [Act.put]) (fk_sta _) (by rfl) (by kernel_rfl) (by kernel_rfl) ?_ ?_
      · intro d os
        simp only [relAll]
        go_simp
        refine ⟨⟨_, rfl, fun q u hq => ?_⟩, (Below.refl _ _).alloc (Nat.le_of_eq (by simp)) _⟩
        match q, hq with
        | 0, hq => cases hq; go_simp
      refine rel_nil ?_
      intro d os
      simp only [relAll]
      rintro v35 ⟨r35, rfl, hy⟩
      have hb5 := HBS.out d os
      have O7 := O2.below hb5
      have B7 := B2.trans (hb5.mono B2.size)
      have hs7 := B7.size
      clear g0 g1 HBS O2 B2 hb5 N1 N2
      generalize grow (redrawn WS d) os = W7 at hy O7 B7 hs7 ⊢
      refine wpList_append_one (enc := encW) (k := 1) (fun _ => rfl) (by decide) (fun x u hu => by simp at hu; rcases hu with rfl; rfl) rfl _ _ 46 rfl (W1.heap.size) 66 i0 (.int .u64 0) 8 Try.underlying46 ihi ihz ihs ihb (by decide) _ V rfl O7 r35 1 (a1 &&& a2) rfl hy (show V.length + 1 ≤ maxLen by unfold maxLen; omega) (show (V.length + 1) * 8 ≤ 140737488355328 by omega) (by first | omega | (simp; omega)) ?_
      intro v8 w8 O8 hb8 hg8
      have HO8 := Lib.hid O8
      have HB8 := Lib.hid (B7.trans hb8)
      clear O7 B7 O8 hb8 hg8 hy
      go_wp2_with fail
      go_roundw
      case rel => exact ⟨j + 1, by omega, by go_num, (by rw [HT.out]; exact HO8), HB8⟩
      all_goals first | done | (simp [intOf]; done) | (simp [intOf]; omega)
    · have hji : ¬ (j : Int) < (g.ands.length : Int) := by omega
      have hjj : j = g.ands.length := by omega
      have HO8 := Lib.hid (show OwnK w.heap.size 66 1 encW WR _ (valsW g (0#64 :: (ins ++ st)) g.ands.length) by
        rw [HXX.out, ← hjj]; exact hO.out.mono HBEL.out.size)
      have HB8 := Lib.hid (HBEL.out.trans (hB.out.mono HBEL.out.size))
      clear hO hB hjj
      go_wp2_with fail
      go_ret
      exact ⟨_, rfl, HO8.out, HB8.out⟩
end Go.Proofs.Ytbphhcjepeamcaa
