/- The program's Lanes and Lane (package graph), Init and Eval (package netlist). Condition: rows of at most 4,000,000,000 elements. -/
import Derived.Test.YtimojbjamfckmaaNlWv
import Derived.Test.YtimojbjamfckmaaNlU
namespace Go.Proofs.Ytimojbjamfckmaa
open Go Go.RowKit Go.Sort
set_option linter.unusedVariables false
abbrev encU : Int → List Value := fun n => [.int .u64 n]
def lanesL (l : List Bool) : List Int := l.map fun b => if b = true then 1 else 0
theorem and1 (n : Int) (h0 : 0 ≤ n) (h1 : n < 18446744073709551616) : (bits BinOp.and IntKind.u64 n 1 == 1) = colB 0 n := by
  have := bandu n 0 h0 h1
  simpa using this
set_option maxRecDepth 100000 in
set_option maxHeartbeats 4000000 in
theorem lanes_any (l : List Bool) (v : Value) (w : World) (hn : l.length ≤ 4000000000) (h : RowC (fun b => Value.bool b) l v w) : Calls Try.prog 90 #[v] w fun e w' => ∃ q, e = .returned (.slice (some ⟨q, 0, none⟩) l.length l.length) ∧ Arr 29 (fun n : Int => Value.int .u64 n) q (lanesL l) w' ∧ w.heap.size ≤ q ∧ Below w.heap.size w w' := by
  obtain ⟨ad, cp, rfl, hc, _, R⟩ := h
  have hmk := fun W => mkU W l.length l.length (Nat.le_refl _) (by omega)
  go_enter Try.func90, Try.ntmps90
  go_upto_region 2 with fail
  have A0 : Arr 29 (fun n : Int => Value.int .u64 n) w.heap.size (List.replicate l.length 0) (w.alloc (.cells (madeCells #[.int .u64 0] l.length) 29)) := Arr.made w _ 0 _
  have bA := (Below.refl w.heap.size w).alloc (Nat.le_refl _) (.cells (madeCells #[.int .u64 0] l.length) 29)
  rw [← fill_zero (fun b : Bool => if b = true then (1 : Int) else 0) 0 l] at A0
  clear hmk
  generalize w.alloc (.cells (madeCells #[.int .u64 0] l.length) 29) = W1 at A0 bA ⊢
  have HR := Lib.hid (fun W (hb : Below w.heap.size w W) => R.below hb)
  have HLL : Hid (lanesL l = l.map (fun b : Bool => if b = true then (1 : Int) else 0)) := Lib.hid rfl
  clear R
  generalize hk : w.heap.size = q at A0 bA ⊢
  have HK := Lib.hid hk
  rw [hk] at HR
  clear hk
  go_upto_block 0 with fail
  go_wp2_with fail
  go_loopw [11] (fun i wr => ∃ j : Nat, j ≤ l.length ∧ i = .int .i64 (j : Int) ∧ Hid (Arr 29 (fun n : Int => Value.int .u64 n) q (fillL (fun b : Bool => if b = true then (1 : Int) else 0) 0 l j) wr) ∧ Hid (Below q w wr)) (fun i _ => l.length - (intOf i).toNat)
  case atStart => exact ⟨0, Nat.zero_le _, rfl, Lib.hid A0, Lib.hid bA⟩
  case round =>
    clear A0 bA
    obtain ⟨j, hj, rfl, hA, hB⟩ := hrel
    rename World => WR
    have hj0 : (0 : Int) ≤ (j : Int) := by omega
    by_cases hlt : j < l.length
    · have hji : (j : Int) < (l.length : Int) := by omega
      obtain ⟨bb, oo, hdd, hcell⟩ := (HR.out _ hB.out).pick (by omega)
      subst hdd
      have c0 := hcell j hlt 0 _ rfl
      simp only [Nat.mul_one, Nat.add_zero] at c0
      clear hcell
      have A1 := hA.out
      have HBB := Lib.hid hB.out
      have HFL := Lib.hid (fill_len (fun b : Bool => if b = true then (1 : Int) else 0) 0 l j hj)
      have HS := Lib.hid (fill_set (fun b : Bool => if b = true then (1 : Int) else 0) 0 l j hlt)
      have HZ := Lib.hid (fun h => fill_skip (fun b : Bool => if b = true then (1 : Int) else 0) 0 l j hlt h)
      clear hA hB
      cases hb : l[j]! with
      | false =>
        rw [hb] at c0
        have HA := Lib.hid A1
        rw [HZ.out (by rw [hb]; rfl)] at HA
        clear hb A1
        go_wp2_with fail
        go_roundw
        case rel => exact ⟨j + 1, by omega, by go_num, HA, HBB⟩
        all_goals first | done | (simp [intOf]; done) | (simp [intOf]; omega)
      | true =>
        rw [hb] at c0 HS
        have fr := A1.free j
        have a1 := A1.cell (j := j) (by rw [HFL.out]; exact hlt)
        have HA := Lib.hid (A1.set j 1)
        have HB2 := Lib.hid (HBB.out.setCell (p := ⟨q, j, none⟩) (Nat.le_refl _) (.int .u64 1))
        have hlt1 := A1.lt
        rw [show (fillL (fun b : Bool => if b = true then (1 : Int) else 0) 0 l j).set j 1 = fillL (fun b : Bool => if b = true then (1 : Int) else 0) 0 l (j + 1) from HS.out] at HA
        clear hb A1
        go_wp2_with fail
        go_roundw
        case rel => exact ⟨j + 1, by omega, by go_num, HA, HB2⟩
        all_goals first | done | (simp [intOf]; done) | (simp [intOf]; omega)
    · have hji : ¬ (j : Int) < (l.length : Int) := by omega
      obtain rfl : j = l.length := by omega
      have HA := hA.out
      rw [fill_all, ← HLL.out] at HA
      have HB := Lib.hid hB.out
      have HA2 := Lib.hid HA
      clear hA hB HA
      go_wp2_with fail
      go_ret
      exact ⟨_, rfl, HA2.out, by rw [HK.out]; exact Nat.le_refl _, by rw [HK.out]; exact HB.out⟩
set_option maxRecDepth 100000 in
set_option maxHeartbeats 4000000 in
theorem lane_any (l : List Int) (v : Value) (w : World) (hn : l.length ≤ 4000000000) (hw : ∀ n ∈ l, 0 ≤ n ∧ n < 18446744073709551616) (h : RowOf 1 encU l v w) : Calls Try.prog 91 #[v] w fun e w' => ∃ q, e = .returned (.slice (some ⟨q, 0, none⟩) l.length l.length) ∧ Arr 4 (fun b => Value.bool b) q (l.map (colB 0)) w' ∧ w.heap.size ≤ q ∧ Below w.heap.size w w' := by
  obtain ⟨ad, cp, rfl, hc, R⟩ := h.open'
  clear h
  have hmk := fun W => mkB W l.length l.length (Nat.le_refl _) (by omega)
  go_enter Try.func91, Try.ntmps91
  go_upto_region 2 with fail
  have A0 : Arr 4 (fun b => Value.bool b) w.heap.size (List.replicate l.length false) (w.alloc (.cells (madeCells #[.bool false] l.length) 4)) := Arr.made w _ false _
  have bA := (Below.refl w.heap.size w).alloc (Nat.le_refl _) (.cells (madeCells #[.bool false] l.length) 4)
  rw [← fill_zero (colB 0) false l] at A0
  clear hmk
  generalize w.alloc (.cells (madeCells #[.bool false] l.length) 4) = W1 at A0 bA ⊢
  have HR := Lib.hid (fun W (hb : Below w.heap.size w W) => R.below hb)
  clear R
  generalize hk : w.heap.size = q at A0 bA ⊢
  have HK := Lib.hid hk
  rw [hk] at HR
  have HW := Lib.hid hw
  clear hk hw
  go_upto_block 0 with fail
  go_wp2_with fail
  go_loopw [11] (fun i wr => ∃ j : Nat, j ≤ l.length ∧ i = .int .i64 (j : Int) ∧ Hid (Arr 4 (fun b => Value.bool b) q (fillL (colB 0) false l j) wr) ∧ Hid (Below q w wr)) (fun i _ => l.length - (intOf i).toNat)
  case atStart => exact ⟨0, Nat.zero_le _, rfl, Lib.hid A0, Lib.hid bA⟩
  case round =>
    clear A0 bA
    obtain ⟨j, hj, rfl, hA, hB⟩ := hrel
    rename World => WR
    have hj0 : (0 : Int) ≤ (j : Int) := by omega
    by_cases hlt : j < l.length
    · have hji : (j : Int) < (l.length : Int) := by omega
      obtain ⟨bb, oo, hdd, hcell⟩ := (HR.out _ hB.out).pick (by omega)
      subst hdd
      have c0 := hcell j hlt 0 _ rfl
      simp only [Nat.mul_one, Nat.add_zero] at c0
      clear hcell
      have A1 := hA.out
      have HBB := Lib.hid hB.out
      have HFL := Lib.hid (fill_len (colB 0) false l j hj)
      have HS := Lib.hid (fill_set (colB 0) false l j hlt)
      have hb := HW.out _ (mem1 l hlt)
      rw [← and1 _ hb.1 hb.2] at HS
      clear hA hB hb
      generalize l[j]! = n at c0 HS
      have fr := A1.free j
      have a1 := A1.cell (j := j) (by rw [HFL.out]; exact hlt)
      have HA := Lib.hid (A1.set j (bits BinOp.and IntKind.u64 n 1 == 1))
      have HB2 := Lib.hid (HBB.out.setCell (p := ⟨q, j, none⟩) (Nat.le_refl _) (.bool (bits BinOp.and IntKind.u64 n 1 == 1)))
      have hlt1 := A1.lt
      rw [HS.out] at HA
      clear A1
      go_wp2_with fail
      go_roundw
      case rel => exact ⟨j + 1, by omega, by go_num, HA, HB2⟩
      all_goals first | done | (simp [intOf]; done) | (simp [intOf]; omega)
    · have hji : ¬ (j : Int) < (l.length : Int) := by omega
      obtain rfl : j = l.length := by omega
      have HA := hA.out
      rw [fill_all] at HA
      have HB := Lib.hid hB.out
      have HA2 := Lib.hid HA
      clear hA hB HA
      go_wp2_with fail
      go_ret
      exact ⟨_, rfl, HA2.out, by rw [HK.out]; exact Nat.le_refl _, by rw [HK.out]; exact HB.out⟩
theorem lanes_len (l : List Bool) : (lanesL l).length = l.length := by simp [lanesL]
def laneW (l : List Bool) : List (BitVec 64) := l.map (fun b => if b = true then 1#64 else 0#64)
theorem laneW_U (l : List Bool) : (laneW l).map U = lanesL l := by
  unfold laneW lanesL
  rw [List.map_map]
  exact List.map_congr_left fun b _ => by cases b <;> rfl
theorem laneW_len (l : List Bool) : (laneW l).length = l.length := by simp [laneW]
theorem laneW_0 (l : List Bool) : (laneW l).map (bitK 0) = l := by
  unfold laneW
  rw [List.map_map]
  conv => rhs; rw [← List.map_id l]
  exact List.map_congr_left fun b _ => by cases b <;> rfl
theorem lanesF_any (l : List Bool) (v : Value) (w : World) (hn : l.length ≤ 4000000000) (h : RowC (fun b => Value.bool b) l v w) : Calls Try.prog 90 #[v] w fun e w' => ∃ u, e = .returned u ∧ RowC (fun b => Value.int .u64 (U b)) (laneW l) u w' ∧ Below w.heap.size w w' :=
  (lanes_any l v w hn h).mono fun e w' ⟨q, h1, h2, h3, h4⟩ => ⟨_, h1, rowC_V (by rw [laneW_U]; exact h2.rowc _ (lanes_len l)), h4⟩
theorem laneF_any (V : List (BitVec 64)) (v : Value) (w : World) (hn : V.length ≤ 4000000000) (h : RowOf 1 encW V v w) : Calls Try.prog 91 #[v] w fun e w' => ∃ q, e = .returned (.slice (some ⟨q, 0, none⟩) V.length V.length) ∧ Arr 4 (fun b => Value.bool b) q (V.map (bitK 0)) w' ∧ w.heap.size ≤ q ∧ Below w.heap.size w w' := by
  have := lane_any (V.map U) v w (by rw [List.length_map]; exact hn) (isV_U V) (row_V h)
  have e : (V.map U).map (colB 0) = V.map (bitK 0) := by
    rw [List.map_map]
    exact List.map_congr_left (fun b _ => colB_V 0 b)
  rwa [List.length_map, e] at this
theorem rowc_sta {α : Type} [Inhabited α] (f : α → Value) (l : List α) : Sta (RowC f l) := fun v w w' h hb => h.below hb
/-- two rows of words and a number -/
def WT (O N : List (BitVec 64)) (e : Int) : Fa := fun v w => ∃ vo vn, v = .tuple #[vo, vn, .int .i64 e] ∧ RowOf 1 encW O vo w ∧ RowOf 1 encW N vn w
theorem wt_sta (O N : List (BitVec 64)) (e : Int) : Sta (WT O N e) := fun v w w' ⟨vo, vn, h1, h2, h3⟩ hb => ⟨vo, vn, h1, h2.below hb, h3.below hb⟩
theorem rowof_sta {α : Type} [Inhabited α] (k : Nat) (enc : α → List Value) (l : List α) : Sta (RowOf k enc l) := fun v w w' h hb => h.below hb
def evO (n : Nl) (ins st : List Bool) : List Bool := if widN n ins.length st.length = 0 then showN n ins st else []
def evN (n : Nl) (ins st : List Bool) : List Bool := if widN n ins.length st.length = 0 then stepN n ins st else []
theorem ow_len (n : Nl) (ins st : List (BitVec 64)) : (outR n ins st).length ≤ n.outs.length := by unfold outR pickL; split <;> simp
theorem nw_len (n : Nl) (ins st : List (BitVec 64)) : (nexR n ins st).length ≤ n.flops.length := by unfold nexR nextW; split <;> simp
theorem ow_0 (n : Nl) (ins st : List Bool) : (outR n (laneW ins) (laneW st)).map (bitK 0) = evO n ins st := by
  unfold evO outR
  rw [laneW_len, laneW_len]
  split
  · rename_i h
    obtain ⟨h0, p1, p2⟩ := widN_zero h
    rw [out_bit n (vn_of h0) _ _ (by rw [laneW_len]; exact p1) (by rw [laneW_len]; exact p2) 0 (by decide), laneW_0, laneW_0]
  · rfl
theorem nw_0 (n : Nl) (ins st : List Bool) : (nexR n (laneW ins) (laneW st)).map (bitK 0) = evN n ins st := by
  unfold evN nexR
  rw [laneW_len, laneW_len]
  split
  · rename_i h
    obtain ⟨h0, p1, p2⟩ := widN_zero h
    rw [next_bit n (vn_of h0) _ _ (by rw [laneW_len]; exact p1) (by rw [laneW_len]; exact p2) 0 (by decide), laneW_0, laneW_0]
  · rfl
set_option maxRecDepth 100000 in
set_option maxHeartbeats 8000000 in
theorem evalN_any (n : Nl) (v : Value) (ins st : List Bool) (vi vs : Value) (sg : SmN n) (hn : ins.length ≤ 4000000000) (hs : st.length ≤ 4000000000) (w : World) (hG : NO n v w) (h1 : RowC (fun b => Value.bool b) ins vi w) (h2 : RowC (fun b => Value.bool b) st vs w) : Calls Try.prog 35 #[v, vi, vs] w fun e w' => ∃ vo vn, e = .returned (.tuple #[vo, vn, .int .i64 (widN n ins.length st.length)]) ∧ RowOf 1 encB (evO n ins st) vo w' ∧ RowOf 1 encB (evN n ins st) vn w' ∧ Below w.heap.size w w' := by
  have hG0 := hG
  obtain ⟨a, b, c, d0, e, a', b', c', d', e', rfl, hC, hA⟩ := hG.all
  clear hG
  have s5 := sg.outs
  have s3 := sg.flops
  have HI := Lib.hid (fun W (hb : Below w.heap.size w W) => h1.below hb)
  have HS := Lib.hid (fun W (hb : Below w.heap.size w W) => h2.below hb)
  obtain ⟨ai, ci, rfl, hic, hin, hir⟩ := h1
  obtain ⟨az, cz, rfl, hsc, hsn, hsr⟩ := h2
  clear hir hsr
  go_enter Try.func35, Try.ntmps35
  go_upto_region 1 with fail
  have bel := (Below.refl w.heap.size w).alloc (Nat.le_refl _) (.cells #[.slice a n.ins.length a', .slice b n.outN.length b', .slice c n.flops.length c', .slice d0 n.gates.length d', .slice e n.outs.length e'] 27)
  have X := GX.new w (.slice a n.ins.length a') (.slice b n.outN.length b') (.slice c n.flops.length c') (.slice d0 n.gates.length d') (.slice e n.outs.length e') 27
  generalize w.alloc (.cells #[.slice a n.ins.length a', .slice b n.outN.length b', .slice c n.flops.length c', .slice d0 n.gates.length d', .slice e n.outs.length e'] 27) = W0 at bel X ⊢
  generalize hk : w.heap.size = k at X ⊢
  have HK := Lib.hid hk
  clear hk
  obtain ⟨x0, x1, x2, x3, x4⟩ := id X
  have HB := Lib.hid (fun d os => bel.trans ((below_regrown W0 d os).mono bel.size))
  have C1 := Lib.hid (fun W (hb : Below w.heap.size w W) => lanesF_any ins _ W hn (HI.out W hb))
  have C2 := Lib.hid (fun W (hb : Below w.heap.size w W) => lanesF_any st _ W hs (HS.out W hb))
  have C3 := Lib.hid (fun u1 u2 W (hb : Below w.heap.size w W) q1 q2 => wordsN_any n _ (laneW ins) (laneW st) u1 u2 sg (by rw [laneW_len]; exact hn) (by rw [laneW_len]; exact hs) W (hG0.below hb) q1 q2)
  have HE0 := Lib.hid (ow_0 n ins st)
  have HE1 := Lib.hid (nw_0 n ins st)
  have HL0 := ow_len n (laneW ins) (laneW st)
  have HL1 := nw_len n (laneW ins) (laneW st)
  rw [laneW_len, laneW_len] at C3
  clear hG0 hA hC HI HS
  generalize outR n (laneW ins) (laneW st) = O at C3 HE0 HL0
  generalize nexR n (laneW ins) (laneW st) = N at C3 HE1 HL1
  generalize laneW ins = LI at C1 C3
  generalize laneW st = LS at C2 C3
  generalize hee : widN n (ins.length : Int) (st.length : Int) = ee at C3
  have HEE := Lib.hid hee
  clear hee
  have g0 := cell_regrown x0
  have g1 := cell_regrown x1
  have g2 := cell_regrown x2
  have g3 := cell_regrown x3
  have g4 := cell_regrown x4
  clear x0 x1 x2 x3 x4
  refine wp_region_rel 13 (by kernel_rfl) (by kernel_rfl) ?_
  simp only [List.take_succ_cons, List.take_zero, List.drop_succ_cons, List.drop_zero]
  (refine rel_fix0 (fun K hK => ?_); go_simp; refine hK _ ?_; clear hK K)
  (refine rel_fix0 (fun K hK => ?_); go_simp; refine hK _ ?_; clear hK K)
  refine rel_fact [] (RowC (fun b => Value.int .u64 (U b)) LI) 14 rfl (by simp [Act.put]) (rowc_sta _ _) (by rfl) (by kernel_rfl) (by kernel_rfl) ?_ ?_
  · intro d os
    simp only [relAll]
    go_simp
    exact ret_fact (C1.out _ (HB.out _ _))
  (refine rel_fix (by kernel_rfl) (by kernel_rfl) (fun K hK => ?_); go_simp; refine hK _ ?_; clear hK K)
  refine rel_fact [] (RowC (fun b => Value.int .u64 (U b)) LS) 16 rfl (by simp [Act.put]) (rowc_sta _ _) (by rfl) (by kernel_rfl) (by kernel_rfl) ?_ ?_
  · intro d os
    simp only [relAll]
    go_simp
    exact ret_fact (C2.out _ (HB.out _ _))
  refine rel_fact [(16, _), (14, _)] (WT O N ee) 17 rfl (by simp [Act.put]) (wt_sta _ _ _) (by rfl) (by kernel_rfl) (by kernel_rfl) ?_ ?_
  · intro d os
    simp only [relAll]
    rintro u2 r2 u1 r1
    go_simp
    exact ret_fact ((C3.out _ _ _ (HB.out _ _) r1 r2).mono fun ee w' ⟨vo, vn, q1, q2, q4, q3⟩ => ⟨_, q1, ⟨vo, vn, rfl, q2, q4⟩, q3⟩)
  refine rel_fact [(17, _)] (WT O N ee) 11 rfl (by simp [Act.put]) (wt_sta _ _ _) (by rfl) (by kernel_rfl) (by kernel_rfl) ?_ ?_
  · intro d os
    simp only [relAll]
    rintro u1 r1
    go_simp
    all_goals exact ⟨r1, Below.refl _ _⟩
  refine rel_fact [(11, _)] (RowOf 1 encW O) 18 rfl (by simp [Act.put]) (rowof_sta _ _ _) (by rfl) (by kernel_rfl) (by kernel_rfl) ?_ ?_
  · intro d os
    simp only [relAll]
    rintro u1 ⟨ga, gb, rfl, q1, q2⟩
    go_simp
    all_goals exact ⟨q1, Below.refl _ _⟩
  refine rel_fact [(11, _)] (RowOf 1 encW N) 19 rfl (by simp [Act.put]) (rowof_sta _ _ _) (by rfl) (by kernel_rfl) (by kernel_rfl) ?_ ?_
  · intro d os
    simp only [relAll]
    rintro u1 ⟨ga, gb, rfl, q1, q2⟩
    go_simp
    all_goals exact ⟨q2, Below.refl _ _⟩
  refine rel_use [(11, _)] (.int .i64 ee) (by rfl) (by kernel_rfl) (by kernel_rfl) ?_ ?_
  · intro d os
    simp only [relAll]
    rintro u1 ⟨ga, gb, rfl, q1, q2⟩
    go_simp
  refine rel_fact [(18, _)] (RowOf 1 encW O) 9 rfl (by simp [Act.put]) (rowof_sta _ _ _) (by rfl) (by kernel_rfl) (by kernel_rfl) ?_ ?_
  · intro d os
    simp only [relAll]
    rintro u1 r1
    go_simp
    all_goals exact ⟨r1, Below.refl _ _⟩
  refine rel_fact [(19, _)] (RowOf 1 encW N) 10 rfl (by simp [Act.put]) (rowof_sta _ _ _) (by rfl) (by kernel_rfl) (by kernel_rfl) ?_ ?_
  · intro d os
    simp only [relAll]
    rintro u1 r1
    go_simp
    all_goals exact ⟨r1, Below.refl _ _⟩
  (refine rel_fix (by kernel_rfl) (by kernel_rfl) (fun K hK => ?_); go_simp; refine hK _ ?_; clear hK K)
  refine rel_nil ?_
  intro d os
  simp only [relAll]
  rintro v10 r10 v9 r9 v19 - v18 - v11 - v17 - v16 - v14 -
  replace bel := HB.out d os
  have R9 := r9
  have R10 := r10
  clear g0 g1 g2 g3 g4 HB C1 C2 C3 r9 r10
  generalize grow (redrawn W0 d) os = WZ at bel R9 R10 ⊢
  by_cases hz : ee = 0
  rotate_left
  · have hz2 : (ee == 0) = false := beq_eq_false_iff_ne.2 hz
    have hw0 : widN n (ins.length : Int) (st.length : Int) ≠ 0 := by rw [HEE.out]; exact hz
    have HR2 : Hid (evO n ins st = []) := Lib.hid (if_neg hw0)
    have HR3 : Hid (evN n ins st = []) := Lib.hid (if_neg hw0)
    clear hw0
    go_wp2_with fail
    exact bodyPost_ret (v := .tuple #[.slice none 0 0, .slice none 0 0, .int .i64 ee]) (by simp [results, Try.results35, go_sem]) rfl ⟨_, _, by rw [HEE.out], by rw [HR2.out]; exact RowOf.nil, by rw [HR3.out]; exact RowOf.nil, bel⟩
  subst hz
  have D1 := Lib.hid (laneF_any O v9 WZ (by omega) R9)
  have D2 := Lib.hid (fun W (hb : Below WZ.heap.size WZ W) => laneF_any N v10 W (by omega) (R10.below hb))
  clear R9 R10
  go_upto_region 4 with fail
  go_wp2_with (first | (go_at_call 91; refine D1.out.mono ?_; rintro ee w1 ⟨q1, rfl, A1, hq1, hb1⟩; clear D1) | (go_at_call 91; refine (D2.out _ hb1).mono ?_; rintro ee w2 ⟨q2, rfl, A2, hq2, hb2⟩; clear D2))
  exact bodyPost_ret (v := .tuple #[.slice (some ⟨q1, 0, none⟩) O.length O.length, .slice (some ⟨q2, 0, none⟩) N.length N.length, .int .i64 0]) (by simp [results, Try.results35, go_sem]) rfl ⟨_, _, by rw [HEE.out], by rw [← HE0.out]; exact ((A1.below hb2).rowc _ (by simp)).row, by rw [← HE1.out]; exact (A2.rowc _ (by simp)).row, bel.trans ((hb1.trans (hb2.mono hb1.size)).mono bel.size)⟩
def beginN (n : Nl) : List Bool := n.flops.map (·.it)
set_option maxRecDepth 100000 in
set_option maxHeartbeats 4000000 in
theorem initN_any (n : Nl) (v : Value) (w : World) (sg : SmN n) (hG : NO n v w) : Calls Try.prog 37 #[v] w fun e w' => ∃ q, e = .returned (.slice (some ⟨q, 0, none⟩) n.flops.length n.flops.length) ∧ Arr 4 (fun b => Value.bool b) q (beginN n) w' ∧ w.heap.size ≤ q ∧ Below w.heap.size w w' := by
  have hG0 := hG
  obtain ⟨a, b, c, d0, e, a', b', c', d', e', rfl, hC, hA⟩ := hG.all
  clear hG
  have s3 := sg.flops
  have hmk := fun W => mkB W n.flops.length n.flops.length (Nat.le_refl _) (by omega)
  go_enter Try.func37, Try.ntmps37
  go_upto_region 1 with fail
  have bel := (Below.refl w.heap.size w).alloc (Nat.le_refl _) (.cells #[.slice a n.ins.length a', .slice b n.outN.length b', .slice c n.flops.length c', .slice d0 n.gates.length d', .slice e n.outs.length e'] 27)
  have X := GX.new w (.slice a n.ins.length a') (.slice b n.outN.length b') (.slice c n.flops.length c') (.slice d0 n.gates.length d') (.slice e n.outs.length e') 27
  generalize w.alloc (.cells #[.slice a n.ins.length a', .slice b n.outN.length b', .slice c n.flops.length c', .slice d0 n.gates.length d', .slice e n.outs.length e'] 27) = W0 at bel X ⊢
  generalize hk : w.heap.size = k at X ⊢
  have HK := Lib.hid hk
  clear hk
  obtain ⟨x0, x1, x2, x3, x4⟩ := id X
  go_upto_region 2 with fail
  have A0 : Arr 4 (fun b => Value.bool b) W0.heap.size (List.replicate n.flops.length false) (W0.alloc (.cells (madeCells #[.bool false] n.flops.length) 4)) := Arr.made W0 _ false _
  have bA := (Below.refl W0.heap.size W0).alloc (Nat.le_refl _) (.cells (madeCells #[.bool false] n.flops.length) 4)
  rw [← fill_zero (fun r : Fl => r.it) false n.flops] at A0
  have HX := Lib.hid (fun W (hb : Below W0.heap.size W0 W) => X.below hb)
  have HA := Lib.hid (fun W (hb : Below W0.heap.size W0 W) => hA.flops.below (bel.trans (hb.mono bel.size)))
  have HBEL := Lib.hid bel
  clear hmk x0 x1 x2 x3 x4 X bel hA hG0 hC
  generalize W0.alloc (.cells (madeCells #[.bool false] n.flops.length) 4) = W1 at A0 bA ⊢
  obtain ⟨x0, x1, x2, x3, x4⟩ := HX.out _ bA
  go_upto_block 0 with fail
  clear x0 x1 x2 x3 x4
  go_wp2_with fail
  go_loopw [13] (fun i wr => ∃ j : Nat, j ≤ n.flops.length ∧ i = .int .i64 (j : Int) ∧ Hid (Arr 4 (fun b => Value.bool b) W0.heap.size (fillL (fun r : Fl => r.it) false n.flops j) wr) ∧ Hid (Below W0.heap.size W0 wr)) (fun i _ => n.flops.length - (intOf i).toNat)
  case atStart => exact ⟨0, Nat.zero_le _, rfl, Lib.hid A0, Lib.hid bA⟩
  case round =>
    clear A0 bA
    obtain ⟨j, hj, rfl, hA, hB⟩ := hrel
    rename World => WR
    have hj0 : (0 : Int) ≤ (j : Int) := by omega
    by_cases hlt : j < n.flops.length
    · have hji : (j : Int) < (n.flops.length : Int) := by omega
      obtain ⟨bb, oo, hdd, hcell⟩ := (HA.out _ hB.out).pick (by omega)
      subst hdd
      have c0 := hcell j hlt 0 _ rfl
      have c1 := hcell j hlt 1 _ rfl
      have c2 := hcell j hlt 2 _ rfl
      have c3 := hcell j hlt 3 _ rfl
      have c4 := hcell j hlt 4 _ rfl
      simp only [Nat.add_zero] at c0
      clear hcell
      have HFL := Lib.hid (fill_len (fun r : Fl => r.it) false n.flops j hj)
      have HS := Lib.hid (fill_set (fun r : Fl => r.it) false n.flops j hlt)
      generalize n.flops[j]! = r at c0 c1 c2 c3 c4 HS
      obtain ⟨r0, r1, r2, r3, r4⟩ := r
      simp only at c0 c1 c2 c3 c4 HS
      go_upto_region 5 with fail
      have b2 := (Below.refl WR.heap.size WR).alloc (Nat.le_refl _) (.cells #[.string r0, .int .i64 r1, .int .i64 r2, .int .i64 r3, .bool r4] 84)
      have y2 : (WR.alloc (.cells #[.string r0, .int .i64 r1, .int .i64 r2, .int .i64 r3, .bool r4] 84)).cell? ⟨WR.heap.size, 4, none⟩ = some (.bool r4) := by go_simp
      have A1 := hA.out.below b2
      have B1 := hB.out.trans (b2.mono hB.out.size)
      clear b2 c0 c1 c2 c3 c4 hA hB
      generalize WR.alloc (.cells #[.string r0, .int .i64 r1, .int .i64 r2, .int .i64 r3, .bool r4] 84) = WS at A1 B1 y2 ⊢
      generalize WR.heap.size = q10 at y2 ⊢
      have fr := A1.free j
      have a1 := A1.cell (j := j) (by rw [HFL.out]; exact hlt)
      have HA := Lib.hid (A1.set j r4)
      have HB2 := Lib.hid (B1.setCell (p := ⟨W0.heap.size, j, none⟩) (Nat.le_refl _) (.bool r4))
      have hlt1 := A1.lt
      rw [HS.out] at HA
      clear A1 B1
      go_wp2_with fail
      go_roundw
      case rel => exact ⟨j + 1, by omega, by go_num, HA, HB2⟩
      all_goals first | done | (simp [intOf]; done) | (simp [intOf]; omega)
    · have hji : ¬ (j : Int) < (n.flops.length : Int) := by omega
      have HA := hA.out
      rw [show j = n.flops.length by omega, fill_all, show n.flops.map (fun r => r.it) = beginN n from rfl] at HA
      have HB := Lib.hid (HBEL.out.trans (hB.out.mono HBEL.out.size))
      have HA2 := Lib.hid HA
      have hws := HBEL.out.size
      clear hA hB HA
      go_wp2_with fail
      go_ret
      exact ⟨_, rfl, HA2.out, hws, HB.out⟩
end Go.Proofs.Ytimojbjamfckmaa
