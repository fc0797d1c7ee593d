/- The program's Values and Words: what they answer. Conditions: rows of at most 4,000,000,000 elements. -/
import Derived.Test.YtbphhcjepeamcaaGpX
namespace Go.Proofs.Ytbphhcjepeamcaa
open Go Go.RowKit Go.Sort
set_option linter.unusedVariables false
theorem wid_ok {g : Gr} {n m : Nat} (h : widE g n m = 0) : faultG g = 0 ∧ n = g.ins.length ∧ m = g.regs.length := by
  unfold widE at h
  by_cases hf : faultG g = 0
  · rw [if_pos hf] at h
    split at h
    · rename_i q; exact ⟨hf, by omega, by omega⟩
    · omega
  · rw [if_neg hf] at h; exact absurd h hf
theorem map_colB (V : List (BitVec 64)) (k : Nat) : (V.map U).map (colB k) = V.map (·.getLsbD k) := by
  rw [List.map_map]
  exact List.map_congr_left fun b _ => colB_U k b
/-- the words of all nodes -/
def vwL (g : Gr) (ins st : List (BitVec 64)) : List (BitVec 64) := if widE g ins.length st.length = 0 then valsW g (0#64 :: (ins ++ st)) g.ands.length else []
def owL (g : Gr) (ins st : List (BitVec 64)) : List (BitVec 64) := if widE g ins.length st.length = 0 then outW g (valsW g (0#64 :: (ins ++ st)) g.ands.length) else []
def nwL (g : Gr) (ins st : List (BitVec 64)) : List (BitVec 64) := if widE g ins.length st.length = 0 then nxtW g (valsW g (0#64 :: (ins ++ st)) g.ands.length) else []
theorem x_len (g : Gr) (ins st : List (BitVec 64)) (h1 : ins.length = g.ins.length) (h2 : st.length = g.regs.length) : (0#64 :: (ins ++ st)).length = n0L g := by
  simp only [List.length_cons, List.length_append, h1, h2]; unfold n0L; omega
theorem x_lane (ins st : List (BitVec 64)) (k : Nat) : (0#64 :: (ins ++ st)).map (·.getLsbD k) = false :: (ins.map (·.getLsbD k) ++ st.map (·.getLsbD k)) := by simp
theorem v_len (g : Gr) (ins st : List (BitVec 64)) (h1 : ins.length = g.ins.length) (h2 : st.length = g.regs.length) : (valsW g (0#64 :: (ins ++ st)) g.ands.length).length = n0L g + g.ands.length := by
  rw [valsW_len g _ _ (Nat.le_refl _), x_len g ins st h1 h2]
theorem in_range {g : Gr} {l : Int} (h : 0 ≤ l ∧ l < allL g) : ndL l < n0L g + g.ands.length := by
  have h2 := h.2
  rw [allL_eq] at h2
  have := ndL_lt h.1 (n := ((n0L g + g.ands.length : Nat) : Int)) (by unfold n0L; omega)
  omega
theorem out_lane (g : Gr) (vg : VG g) (ins st : List (BitVec 64)) (h1 : ins.length = g.ins.length) (h2 : st.length = g.regs.length) (k : Nat) (hk : k < 64) : (outW g (valsW g (0#64 :: (ins ++ st)) g.ands.length)).map (·.getLsbD k) = shows g (ins.map (·.getLsbD k)) (st.map (·.getLsbD k)) := by
  unfold outW shows
  rw [List.map_map, ← x_lane, ← valsW_G g vg _ (x_len g ins st h1 h2) k hk]
  exact List.map_congr_left fun l hl => lit_lane _ k hk l (by rw [v_len g ins st h1 h2]; exact in_range (vg.out l hl))
theorem nxt_lane (g : Gr) (vg : VG g) (ins st : List (BitVec 64)) (h1 : ins.length = g.ins.length) (h2 : st.length = g.regs.length) (k : Nat) (hk : k < 64) : (nxtW g (valsW g (0#64 :: (ins ++ st)) g.ands.length)).map (·.getLsbD k) = nexts g (ins.map (·.getLsbD k)) (st.map (·.getLsbD k)) := by
  unfold nxtW nexts
  rw [List.map_map, ← x_lane, ← valsW_G g vg _ (x_len g ins st h1 h2) k hk]
  exact List.map_congr_left fun r hr => lit_lane _ k hk r.nx (by rw [v_len g ins st h1 h2]; exact in_range (vg.next r hr))
set_option maxRecDepth 100000 in
set_option maxHeartbeats 8000000 in
theorem valuesF_any (g : Gr) (v : Value) (ins st : List (BitVec 64)) (vi vs : Value) (sg : Small g) (w : World) (hG : GO g v w) (h1 : RowC (fun b => Value.int .u64 (U b)) ins vi w) (h2 : RowC (fun b => Value.int .u64 (U b)) st vs w) : Calls Try.prog 34 #[v, vi, vs] w fun e w' => ∃ u, e = .returned (.tuple #[u, .int .i64 (widE g ins.length st.length)]) ∧ OwnK w.heap.size 66 1 encW w' u (vwL g ins st) ∧ Below w.heap.size w w' := by
  have hG0 := hG
  obtain ⟨a, b, c, d0, e, a', b', c', d', e', rfl, hC, hA⟩ := hG.all
  clear hG
  have HI := Lib.hid (fun W (hb : Below w.heap.size w W) => h1.below hb)
  have HS := Lib.hid (fun W (hb : Below w.heap.size w W) => h2.below hb)
  obtain ⟨ai, ci, rfl, hic, hin, hir⟩ := h1
  obtain ⟨az, cz, rfl, hsc, hsn, hsr⟩ := h2
  clear hir hsr
  go_enter Try.func34, Try.ntmps34
  go_upto_region 1 with fail
  have bel := (Below.refl w.heap.size w).alloc (Nat.le_refl _) (.cells #[.slice a g.ins.length a', .slice b g.outN.length b', .slice c g.regs.length c', .slice d0 g.ands.length d', .slice e g.outs.length e'] 28)
  have X := GX.new w (.slice a g.ins.length a') (.slice b g.outN.length b') (.slice c g.regs.length c') (.slice d0 g.ands.length d') (.slice e g.outs.length e') 28
  generalize w.alloc (.cells #[.slice a g.ins.length a', .slice b g.outN.length b', .slice c g.regs.length c', .slice d0 g.ands.length d', .slice e g.outs.length e'] 28) = W0 at bel X ⊢
  generalize hk : w.heap.size = k at X ⊢
  have HK := Lib.hid hk
  clear hk
  obtain ⟨x0, x1, x2, x3, x4⟩ := id X
  have H0 := Lib.hid (check_any g _ sg W0 (hG0.below bel))
  by_cases hz : faultG g = 0
  rotate_left
  · have HR : Hid (widE g ins.length st.length = faultG g) := Lib.hid (if_neg hz)
    have HR2 : Hid (vwL g ins st = []) := Lib.hid (if_neg (by rw [HR.out]; exact hz))
    generalize hf : faultG g = f at H0 hz
    have HFF := Lib.hid hf
    clear hf
    have hz2 : (f == 0) = false := beq_eq_false_iff_ne.2 hz
    go_wp2_with (first | (go_at_call 29; refine H0.out.mono ?_; rintro ee w1 ⟨rfl, hb1⟩))
    go_ret2
    exact ⟨_, by rw [HR.out, HFF.out]; rfl, by rw [HR2.out]; exact OwnK.nil _ _ _ _ _, bel.trans (hb1.mono bel.size)⟩
  have vg := vg_of hz
  have HW : Hid (widE g ins.length st.length = if (ins.length : Int) = (g.ins.length : Int) ∧ (st.length : Int) = (g.regs.length : Int) then 0 else 20) := Lib.hid (if_pos hz)
  rw [hz] at H0
  clear hz
  go_upto_region 4 with (first | (go_at_call 29; refine H0.out.mono ?_; rintro ee W1 ⟨rfl, hb1⟩))
  have bel1 := bel.trans (hb1.mono bel.size)
  have X1 := X.below hb1
  clear x0 x1 x2 x3 x4 X hb1 bel H0
  obtain ⟨x0, x1, x2, x3, x4⟩ := id X1
  by_cases p1 : ins.length = g.ins.length
  rotate_left
  · have q5 : ((ins.length : Int) == (g.ins.length : Int)) = false := beq_eq_false_iff_ne.2 (by omega)
    have q6 : ¬ (ins.length : Int) = (g.ins.length : Int) := by omega
    have HR := Lib.hid (HW.out.trans (if_neg (fun h => q6 h.1)))
    have HR2 : Hid (vwL g ins st = []) := Lib.hid (if_neg (by rw [HR.out]; decide))
    clear p1
    go_wp2_with fail
    go_ret2
    exact ⟨_, by rw [HR.out]; rfl, by rw [HR2.out]; exact OwnK.nil _ _ _ _ _, bel1⟩
  have P1 := Lib.hid p1
  have q5 : ((ins.length : Int) == (g.ins.length : Int)) = true := beq_iff_eq.2 (by omega)
  have q6 : ((ins.length : Int) != (g.ins.length : Int)) = false := by simp [bne, q5]
  clear p1
  by_cases p2 : st.length = g.regs.length
  rotate_left
  · have q7 : ((st.length : Int) == (g.regs.length : Int)) = false := beq_eq_false_iff_ne.2 (by omega)
    have q8 : ¬ (st.length : Int) = (g.regs.length : Int) := by omega
    have HR := Lib.hid (HW.out.trans (if_neg (fun h => q8 h.2)))
    have HR2 : Hid (vwL g ins st = []) := Lib.hid (if_neg (by rw [HR.out]; decide))
    clear p2
    go_wp2_with fail
    go_ret2
    exact ⟨_, by rw [HR.out]; rfl, by rw [HR2.out]; exact OwnK.nil _ _ _ _ _, bel1⟩
  have P2 := Lib.hid p2
  have q7 : ((st.length : Int) == (g.regs.length : Int)) = true := beq_iff_eq.2 (by omega)
  have q8 : ((st.length : Int) != (g.regs.length : Int)) = false := by simp [bne, q7]
  clear p2
  have HR := Lib.hid (HW.out.trans (if_pos ⟨by rw [P1.out], by rw [P2.out]⟩))
  have HR2 : Hid (vwL g ins st = valsW g (0#64 :: (ins ++ st)) g.ands.length) := Lib.hid (if_pos HR.out)
  go_upto_region 6 with fail
  clear q5 q6 q7 q8
  have H2 := Lib.hid (values_any g _ ins st _ _ vg sg P1.out P2.out W1 (hG0.below bel1) (HI.out _ bel1) (HS.out _ bel1))
  go_wp2_with (first | (go_at_call 85; refine H2.out.mono ?_; rintro ee w2 ⟨u, rfl, O2, hb2⟩))
  go_ret2
  exact ⟨_, by rw [HR.out]; rfl, by rw [HR2.out]; exact O2.mono bel1.size, bel1.trans (hb2.mono bel1.size)⟩
set_option maxRecDepth 100000 in
set_option maxHeartbeats 8000000 in
theorem wordsF_any (g : Gr) (v : Value) (ins st : List (BitVec 64)) (vi vs : Value) (sg : Small g) (w : World) (hG : GO g v w) (h1 : RowC (fun b => Value.int .u64 (U b)) ins vi w) (h2 : RowC (fun b => Value.int .u64 (U b)) st vs w) : Calls Try.prog 35 #[v, vi, vs] w fun e w' => ∃ vo vn, e = .returned (.tuple #[vo, vn, .int .i64 (widE g ins.length st.length)]) ∧ RowOf 1 encW (owL g ins st) vo w' ∧ RowOf 1 encW (nwL g ins st) vn w' ∧ Below w.heap.size w w' := by
  have hG0 := hG
  obtain ⟨a, b, c, d0, e, a', b', c', d', e', rfl, hC, hA⟩ := hG.all
  clear hG
  have HI := Lib.hid (fun W (hb : Below w.heap.size w W) => h1.below hb)
  have HS := Lib.hid (fun W (hb : Below w.heap.size w W) => h2.below hb)
  obtain ⟨ai, ci, rfl, hic, hin, hir⟩ := h1
  obtain ⟨az, cz, rfl, hsc, hsn, hsr⟩ := h2
  clear hir hsr
  go_enter Try.func35, Try.ntmps35
  go_upto_region 1 with fail
  have bel := (Below.refl w.heap.size w).alloc (Nat.le_refl _) (.cells #[.slice a g.ins.length a', .slice b g.outN.length b', .slice c g.regs.length c', .slice d0 g.ands.length d', .slice e g.outs.length e'] 28)
  have X := GX.new w (.slice a g.ins.length a') (.slice b g.outN.length b') (.slice c g.regs.length c') (.slice d0 g.ands.length d') (.slice e g.outs.length e') 28
  generalize w.alloc (.cells #[.slice a g.ins.length a', .slice b g.outN.length b', .slice c g.regs.length c', .slice d0 g.ands.length d', .slice e g.outs.length e'] 28) = W0 at bel X ⊢
  generalize hk : w.heap.size = k at X ⊢
  have HK := Lib.hid hk
  clear hk
  obtain ⟨x0, x1, x2, x3, x4⟩ := id X
  have H0 := Lib.hid (valuesF_any g _ ins st _ _ sg W0 (hG0.below bel) (HI.out _ bel) (HS.out _ bel))
  by_cases hz : widE g ins.length st.length = 0
  rotate_left
  · have HR2 : Hid (owL g ins st = []) := Lib.hid (if_neg hz)
    have HR3 : Hid (nwL g ins st = []) := Lib.hid (if_neg hz)
    generalize hf : widE g ins.length st.length = f at H0 hz
    have HFF := Lib.hid hf
    clear hf
    have hz2 : (f == 0) = false := beq_eq_false_iff_ne.2 hz
    go_wp2_with (first | (go_at_call 34; refine H0.out.mono ?_; rintro ee w1 ⟨u, rfl, O1, hb1⟩))
    exact bodyPost_ret (v := .tuple #[.slice none 0 0, .slice none 0 0, .int .i64 f]) (by simp [results, Try.results35, go_sem]) rfl ⟨_, _, by rw [HFF.out], by rw [HR2.out]; exact RowOf.nil, by rw [HR3.out]; exact RowOf.nil, bel.trans (hb1.mono bel.size)⟩
  obtain ⟨hz0, p1, p2⟩ := wid_ok hz
  have vg := vg_of hz0
  have HR2 : Hid (owL g ins st = outW g (valsW g (0#64 :: (ins ++ st)) g.ands.length)) := Lib.hid (if_pos hz)
  have HR3 : Hid (nwL g ins st = nxtW g (valsW g (0#64 :: (ins ++ st)) g.ands.length)) := Lib.hid (if_pos hz)
  rw [show vwL g ins st = valsW g (0#64 :: (ins ++ st)) g.ands.length from if_pos hz, hz] at H0
  have HZ := Lib.hid hz
  have hvl := v_len g ins st p1 p2
  generalize valsW g (0#64 :: (ins ++ st)) g.ands.length = V at H0 HR2 HR3 hvl
  have HVL := Lib.hid hvl
  clear hz hz0 p1 p2 hvl
  go_upto_region 4 with (first | (go_at_call 34; refine H0.out.mono ?_; rintro ee W1 ⟨u, rfl, O1, hb1⟩))
  have bel1 := bel.trans (hb1.mono bel.size)
  have X1 := X.below hb1
  clear x0 x1 x2 x3 x4 X hb1 bel H0
  obtain ⟨x0, x1, x2, x3, x4⟩ := id X1
  have H2 := Lib.hid (sampled_any g _ V u vg HVL.out W1 (hG0.below bel1) (O1.row lenW))
  go_wp2_with (first | (go_at_call 86; refine H2.out.mono ?_; rintro ee w2 ⟨vo, vn, rfl, O2, O3, hb2⟩))
  exact bodyPost_ret (v := .tuple #[vo, vn, .int .i64 0]) (by simp [results, Try.results35, go_sem]) rfl ⟨_, _, by rw [HZ.out], by rw [HR2.out]; exact O2.row lenW, by rw [HR3.out]; exact O3.row lenW, bel1.trans (hb2.mono bel1.size)⟩
theorem values_holds : ValuesC := fun g v ins st vi vs w sg hn hs wi ws hG h1 h2 => by
  obtain ⟨I, rfl⟩ := isW_map wi
  obtain ⟨S, rfl⟩ := isW_map ws
  have h := valuesF_any g v I S vi vs sg w hG (rowC_W h1) (rowC_W h2)
  rw [List.length_map, List.length_map]
  refine h.mono fun e w' ⟨u, q1, q2, q3⟩ => ⟨u, (vwL g I S).map U, q1, row_U (q2.row lenW), ⟨isW_U _, fun hz => ?_, fun hz => ?_⟩, q3⟩
  · rw [List.length_map, List.length_map] at hz
    obtain ⟨hz0, p1, p2⟩ := wid_ok hz
    rw [show vwL g I S = valsW g (0#64 :: (I ++ S)) g.ands.length from if_pos hz]
    refine ⟨by rw [List.length_map]; exact v_len g I S p1 p2, fun k hk => ?_⟩
    rw [map_colB, map_colB, map_colB, valsW_G g (vg_of hz0) _ (x_len g I S p1 p2) k hk, x_lane]
  · rw [List.length_map, List.length_map] at hz
    rw [show vwL g I S = [] from if_neg hz]; rfl
theorem words_holds : WordsC := fun g v ins st vi vs w sg hn hs wi ws hG h1 h2 => by
  obtain ⟨I, rfl⟩ := isW_map wi
  obtain ⟨S, rfl⟩ := isW_map ws
  have h := wordsF_any g v I S vi vs sg w hG (rowC_W h1) (rowC_W h2)
  rw [List.length_map, List.length_map]
  refine h.mono fun e w' ⟨vo, vn, q1, q2, q4, q3⟩ => ⟨vo, vn, (owL g I S).map U, (nwL g I S).map U, q1, row_U q2, row_U q4, ⟨isW_U _, isW_U _, fun hz => ?_, fun hz => ?_⟩, q3⟩
  · rw [List.length_map, List.length_map] at hz
    obtain ⟨hz0, p1, p2⟩ := wid_ok hz
    rw [show owL g I S = _ from if_pos hz, show nwL g I S = _ from if_pos hz]
    intro k hk
    rw [map_colB, map_colB, map_colB, map_colB]
    exact ⟨out_lane g (vg_of hz0) I S p1 p2 k hk, nxt_lane g (vg_of hz0) I S p1 p2 k hk⟩
  · rw [List.length_map, List.length_map] at hz
    rw [show owL g I S = [] from if_neg hz, show nwL g I S = [] from if_neg hz]
    exact ⟨rfl, rfl⟩
end Go.Proofs.Ytbphhcjepeamcaa
