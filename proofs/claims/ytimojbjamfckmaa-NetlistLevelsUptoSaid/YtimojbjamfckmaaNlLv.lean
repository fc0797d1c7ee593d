/- The levels of the nets: the reference, and the program's Levels and Depth. Condition: the sizes of a netlist that came in. -/
import Derived.Test.YtimojbjamfckmaaNlPk
import Derived.Test.YtimojbjamfckmaaNlFo
namespace Go.Proofs.Ytimojbjamfckmaa
open Go Go.RowKit Go.Sort
set_option linter.unusedVariables false
def addLev (V : List Int) (g : Ga) : List Int := V ++ [1 + maxL (pickL V g.ins)]
/-- the levels up to the gate j -/
def levL (n : Nl) (j : Nat) : List Int := (n.gates.take j).foldl addLev (List.replicate (fstN n) 0)
theorem levL_succ (n : Nl) (j : Nat) (hj : j < n.gates.length) : levL n (j + 1) = levL n j ++ [1 + maxL (pickL (levL n j) n.gates[j]!.ins)] := by
  unfold levL; rw [tk1 n.gates hj, List.foldl_append]; rfl
theorem levL_len (n : Nl) : ∀ j, j ≤ n.gates.length → (levL n j).length = fstN n + j
  | 0, _ => by simp [levL]
  | j + 1, h => by rw [levL_succ n j (by omega), List.length_append, levL_len n j (by omega)]; rfl
theorem levL_bound (n : Nl) (vn : VN n) : ∀ j, j ≤ n.gates.length → ∀ x ∈ levL n j, 0 ≤ x ∧ x ≤ j
  | 0, _, x, hx => by
    unfold levL at hx
    rw [List.take_zero, List.foldl_nil] at hx
    rw [(List.mem_replicate.1 hx).2]; omega
  | j + 1, h, x, hx => by
    rw [levL_succ n j (by omega)] at hx
    have ih := levL_bound n vn j (by omega)
    rcases List.mem_append.1 hx with h1 | h1
    · have := ih x h1; omega
    · rw [List.mem_singleton] at h1
      subst h1
      have h0 := maxL_nonneg (pickL (levL n j) n.gates[j]!.ins)
      have h2 : maxL (pickL (levL n j) n.gates[j]!.ins) ≤ j := by
        refine maxL_le _ _ (by omega) fun y hy => ?_
        obtain ⟨k, hk, rfl⟩ := List.mem_map.1 hy
        have hr := vn.nets j (by omega) k hk
        have hl := levL_len n j (by omega)
        exact (ih _ (mem1 _ (by omega))).2
      omega
/-- the depth -/
def depL (n : Nl) : Int := maxL (pickL (levL n n.gates.length) (rootsP n))
theorem rootsP_in {n : Nl} (vn : VN n) : ∀ x ∈ rootsP n, 0 ≤ x ∧ x < (netsN n : Nat) := by
  intro x hx
  unfold rootsP at hx
  rcases List.mem_append.1 hx with h | h
  · obtain ⟨f, hf, hx2⟩ := List.mem_flatMap.1 h
    obtain ⟨j, hj, rfl⟩ := List.getElem_of_mem hf
    have hd := vn.d j hj
    have he := vn.en j hj
    rw [getElem!_pos n.flops j hj] at hd he
    simp only [List.mem_cons, List.not_mem_nil, or_false] at hx2
    rcases hx2 with rfl | rfl
    · exact hd
    · exact he
  · exact vn.out x h
theorem depL_bound {n : Nl} (vn : VN n) : 0 ≤ depL n ∧ depL n ≤ n.gates.length := by
  refine ⟨maxL_nonneg _, maxL_le _ _ (by omega) fun y hy => ?_⟩
  obtain ⟨k, hk, rfl⟩ := List.mem_map.1 hy
  have hr := rootsP_in vn k hk
  have hl := levL_len n n.gates.length (Nat.le_refl _)
  have : netsN n = fstN n + n.gates.length := rfl
  exact (levL_bound n vn _ (Nat.le_refl _) _ (mem1 _ (by omega))).2
def levR (n : Nl) : List Int := if faultN n = 0 then levL n n.gates.length else []
def depR (n : Nl) : Int := if faultN n = 0 then depL n else 0
theorem pickL_len {α : Type} [Inhabited α] (L : List α) (P : List Int) : (pickL L P).length = P.length := List.length_map _
theorem Arr.rowN {t : TypeId} {α : Type} [Inhabited α] {f : α → Value} {g : Nat} {l : List α} {w : World} (h : Arr t f g l w) (n : Nat) (hn : l.length = n) : RowOf 1 (fun x => [f x]) l (.slice (some ⟨g, 0, none⟩) n n) w := (h.rowc n hn).row
theorem newJ (W : World) (x : Int) : ∀ (q : Nat) (u : Value), (encI x)[q]? = some u → (W.alloc (.cells #[.int .i64 x] 3)).cell? ⟨W.heap.size, q, none⟩ = some u := by
  intro q u hq
  match q, hq with
  | 0, hq => cases hq; go_simp
theorem info0J : ∃ i, Try.prog.info? 3 = some i ∧ i.zero = some (.int .i64 0) ∧ i.size = 1 ∧ i.bytes = 8 := infoNJ_parts
set_option maxRecDepth 100000 in
set_option maxHeartbeats 8000000 in
theorem levels_anyN (n : Nl) (v : Value) (sg : SmN n) (w : World) (hG : NO n v w) : Calls Try.prog 45 #[v] w fun e w' => ∃ vl, e = .returned (.tuple #[vl, .int .i64 (faultN n)]) ∧ RowOf 1 encI (levR n) vl w' ∧ Below w.heap.size w w' := by
  have hG0 := hG
  obtain ⟨a, b, c, d0, e, a', b', c', d', e', rfl, hC, hA⟩ := hG.all
  clear hG
  have s1 := sg.ins
  have s3 := sg.flops
  have s4 := sg.gates
  go_enter Try.func45, Try.ntmps45
  go_upto_region 1 with fail
  have bel := (Below.refl w.heap.size w).alloc (Nat.le_refl _) (.cells #[.slice a n.ins.length a', .slice b n.outN.length b', .slice c n.flops.length c', .slice d0 n.gates.length d', .slice e n.outs.length e'] 27)
  have X := GX.new w (.slice a n.ins.length a') (.slice b n.outN.length b') (.slice c n.flops.length c') (.slice d0 n.gates.length d') (.slice e n.outs.length e') 27
  generalize w.alloc (.cells #[.slice a n.ins.length a', .slice b n.outN.length b', .slice c n.flops.length c', .slice d0 n.gates.length d', .slice e n.outs.length e'] 27) = W0 at bel X ⊢
  generalize hk : w.heap.size = k at X ⊢
  have HK := Lib.hid hk
  clear hk
  obtain ⟨x0, x1, x2, x3, x4⟩ := id X
  have H1 := Lib.hid (form_any n _ sg W0 (hG0.below bel))
  by_cases hf : faultN n = 0
  rotate_left
  · have q5 : (faultN n == 0) = false := beq_eq_false_iff_ne.2 hf
    have q6 : (faultN n != 0) = true := by simp [bne, q5]
    have HL := Lib.hid (show levR n = [] from if_neg hf)
    clear hG0 hA hC
    have HFF := Lib.hid (show faultN n = faultN n from rfl)
    clear hf
    go_wp2_with (first | (go_at_call 18; refine H1.out.mono ?_; rintro ee w1 ⟨rfl, hb1⟩))
    go_ret2
    exact ⟨_, rfl, by rw [HL.out]; exact RowOf.nil, bel.trans (hb1.mono bel.size)⟩
  · have vn := vn_of hf
    have HL := Lib.hid (show levR n = levL n n.gates.length from if_pos hf)
    rw [hf] at H1
    have HF0 := Lib.hid hf
    have n1 := vn.ins
    have n3 := vn.flops
    have n4 := vn.gates
    go_upto_region 4 with (first | (go_at_call 18; refine H1.out.mono ?_; rintro ee W1 ⟨rfl, hb1⟩))
    have bel1 := bel.trans (hb1.mono bel.size)
    have X1 := X.below hb1
    have HX := Lib.hid (fun W (hb : Below W1.heap.size W1 W) => X1.below hb)
    have HA := Lib.hid (fun W (hb : Below W1.heap.size W1 W) => hA.below (bel1.trans (hb.mono bel1.size)))
    have HF1 := Lib.hid (fun W (hb : Below w.heap.size w W) => nfirst_any n _ sg W (hG0.below hb))
    have HN1 := Lib.hid (fun W (hb : Below w.heap.size w W) => nnets_any n _ sg W (hG0.below hb))
    have HBEL := Lib.hid bel1
    clear x0 x1 x2 x3 x4 X hA hG0 hC H1 hb1 bel hf
    obtain ⟨x0, x1, x2, x3, x4⟩ := X1
    have HBS := Lib.hid (fun d os => below_regrown W1 d os)
    have HB1 := Lib.hid (fun d os => bel1.trans ((below_regrown W1 d os).mono bel1.size))
    have hnn : fstN n + n.gates.length ≤ 100000 := by unfold fstN; omega
    have hmk := fun W => mkJ W (fstN n) (netsN n) (by unfold netsN; omega) (by unfold netsN; omega)
    have g0 := cell_regrown x0
    have g1 := cell_regrown x1
    have g2 := cell_regrown x2
    have g3 := cell_regrown x3
    have g4 := cell_regrown x4
    clear x0 x1 x2 x3 x4 bel1
    refine wp_region_rel 5 (by kernel_rfl) (by kernel_rfl) ?_
    simp only [List.take_succ_cons, List.take_zero, List.drop_succ_cons, List.drop_zero]
    (refine rel_fix0 (fun K hK => ?_); go_simp; refine hK _ ?_; clear hK K)
    (refine rel_fix0 (fun K hK => ?_); go_simp; apply Exists.intro; refine ⟨fun _ _ => ?_, hK _ ?_⟩; (with_reducible exact ret_fix (HF1.out _ (HB1.out _ _))); clear hK K)
    (refine rel_fix0 (fun K hK => ?_); go_simp; refine hK _ ?_; clear hK K)
    (refine rel_fix0 (fun K hK => ?_); go_simp; apply Exists.intro; refine ⟨fun _ _ => ?_, hK _ ?_⟩; (with_reducible exact ret_fix (HN1.out _ (HB1.out _ _))); clear hK K)
    refine rel_fact [] (fun v w => OwnK W1.heap.size 3 1 encI w v (List.replicate (fstN n) 0)) 17 rfl (by simp [Act.put]) (fun v w w2 h hb => h.below hb) (by rfl) (by kernel_rfl) (by kernel_rfl) ?_ ?_
    · intro d os
      simp only [relAll]
      go_simp
      exact ⟨(by have q := own_made (f := fun b : Int => Value.int .i64 b) (grow (redrawn W1 d) os) W1.heap.size (HBS.out d os).size 3 0 (fstN n) (netsN n) (by unfold netsN; omega) (by unfold netsN maxLen; omega); rwa [show (grow (redrawn W1 d) os).heap.size = (redrawn W1 d).heap.size + os.size from Array.size_append] at q), (Below.refl _ _).alloc (Nat.le_of_eq Array.size_append.symm) _⟩
    refine rel_nil ?_
    intro d os
    simp only [relAll]
    rintro v17 O17
    have O1 := O17
    have B1 := HBS.out d os
    clear g0 g1 g2 g3 g4 HB1 HF1 HN1 hmk O17 HBS
    generalize grow (redrawn _ d) os = W2 at O1 B1 ⊢
    obtain ⟨x0, x1, x2, x3, x4⟩ := HX.out _ B1
    obtain ⟨i0, ihi, ihz, ihs, ihb⟩ := info0J
    clear hnn
    go_upto_block 0 with fail
    clear x0 x1 x2 x3 x4
    go_wp2_with fail
    go_loopw [5, 21] (fun u i wr => ∃ j : Nat, j ≤ n.gates.length ∧ i = .int .i64 (j : Int) ∧ Hid (OwnK W1.heap.size 3 1 encI wr u (levL n j)) ∧ Hid (Below W1.heap.size W1 wr)) (fun _ i _ => n.gates.length - (intOf i).toNat)
    case atStart => exact ⟨0, Nat.zero_le _, rfl, Lib.hid O1, Lib.hid B1⟩
    case round =>
      clear O1 B1
      obtain ⟨j, hj, rfl, hO, hB⟩ := hrel
      rename World => WG
      have hj0 : (0 : Int) ≤ (j : Int) := by omega
      by_cases hlt : j < n.gates.length
      · have hji : (j : Int) < (n.gates.length : Int) := by omega
        have hLN := levL_len n j hj
        have HT := Lib.hid (levL_succ n j hlt)
        have hin := vn.nets j hlt
        have h6 := vn.pins j hlt
        have hmx : maxL (pickL (levL n j) n.gates[j]!.ins) ≤ 100000 := by
          have := levL_bound n vn (j + 1) (by omega) (1 + maxL (pickL (levL n j) n.gates[j]!.ins)) (by rw [levL_succ n j hlt]; exact List.mem_append_right _ (List.mem_singleton.2 rfl))
          omega
        have hmn := maxL_nonneg (pickL (levL n j) n.gates[j]!.ins)
        have HLN : (levL n j).length ≤ 100000 := by rw [hLN]; unfold fstN; omega
        have hA1 := HA.out _ hB.out
        have hI := hA1.each j hlt
        obtain ⟨bb, oo, hdd, hcell⟩ := hA1.gates.pick (by omega)
        subst hdd
        have c0 := hcell j hlt 0 _ rfl
        have c1 := hcell j hlt 1 _ rfl
        have c2 := hcell j hlt 2 _ rfl
        simp only [Nat.add_zero] at c0
        clear hcell hA1
        generalize n.gates[j]! = y at c0 c1 c2 HT hI hin h6 hmx hmn
        obtain ⟨y0, y1, y2, y3, y4⟩ := y
        obtain ⟨hr, hcp, hnl⟩ := hI
        simp only at c0 c1 c2 HT hr hcp hnl hin h6 hmx hmn
        have hin2 : ∀ x ∈ y2, 0 ≤ x ∧ x < ((levL n j).length : Int) := fun x hx => by rw [hLN]; exact hin x hx
        clear hin hLN
        generalize hV : levL n j = V at hO HT hin2 hmx hmn HLN
        have HV := Lib.hid hV
        clear hV
        obtain ⟨ad, cp, hv⟩ := hO.out.slice
        subst hv
        have hB5 := hB.out
        have hO5 := hO.out
        clear hB hO
        go_upto_region 8 with fail
        have bA := (Below.refl WG.heap.size WG).alloc (Nat.le_refl _) (.cells #[.int .i64 y0, .int .u64 (U y1), .slice y3 y2.length y4] 82)
        have z2 : (WG.alloc (.cells #[.int .i64 y0, .int .u64 (U y1), .slice y3 y2.length y4] 82)).cell? ⟨WG.heap.size, 2, none⟩ = some (.slice y3 y2.length y4) := by go_simp

        generalize WG.alloc (.cells #[.int .i64 y0, .int .u64 (U y1), .slice y3 y2.length y4] 82) = WH at z2 bA ⊢
        generalize WG.heap.size = q10 at z2 ⊢
        have hB6 := hB5.trans (bA.mono hB5.size)
        have hO6 := hO5.below bA
        have hr6 := hr.below bA
        clear c0 c1 c2 bA hr hB5 hO5
        have HP := Lib.hid (pickedI_any V y2 _ (.slice y3 y2.length y4) (by omega) hin2 WH (hO6.row lenJ) (RowOf.mk hcp hr6))
        clear hin2
        go_wp2_with (first | (go_at_call 95; refine HP.out.mono ?_; rintro ee w1 ⟨q1, rfl, A1, hq1, hb1⟩))
        have HG := Lib.hid (greatest_any (pickL V y2) _ (by rw [pickL_len]; omega) w1 (A1.rowN y2.length (pickL_len V y2)))
        have hB7 := hB6.trans (hb1.mono hB6.size)
        have hO7 := hO6.below hb1
        clear A1 hq1 hb1 hB6 hO6 hr6 HP
        generalize maxL (pickL V y2) = mx at HG HT hmx hmn
        go_wp2_with (first | (go_at_call 94; refine HG.out.mono ?_; rintro ee w2 ⟨rfl, hb2⟩; have hB8 := hB7.trans (hb2.mono hB7.size); have hs8 := hB8.size; have bB := (Below.refl _ w2).alloc (Nat.le_refl _) (.cells #[.int .i64 (1 + mx)] 3); have hs9 := Nat.le_trans hs8 bB.size; have O4 := (hO7.below hb2).below bB; have hy := newJ w2 (1 + mx)) | (at_builtin; refine wpList_append_one (enc := encI) (k := 1) (fun _ => rfl) (by decide) (fun x u hu => by simp at hu; rcases hu with rfl; rfl) rfl _ _ 25 rfl (W1.heap.size) 3 i0 (.int .i64 0) 8 Try.underlying25 ihi ihz ihs ihb (by decide) _ V rfl O4 w2.heap.size 1 (1 + mx) rfl hy (show V.length + 1 ≤ maxLen by unfold maxLen; omega) (show (V.length + 1) * 8 ≤ 140737488355328 by omega) (by first | omega | (simp; omega)) ?_))
        intro v5 w5 O5 hb5 hg5
        have HO5 := Lib.hid O5
        have HB5 := Lib.hid (hB8.trans ((bB.mono hB8.size).trans hb5))
        clear O5 hb5 hg5 O4 hy hB7 hB8 z2 bB hO7 hb2
        go_wp2_with fail
        go_roundw
        case rel => exact ⟨j + 1, by omega, by go_num, (by rw [HT.out]; exact HO5), HB5⟩
        all_goals first | done | (simp [intOf]; done) | (simp [intOf]; omega)
      · have hji : ¬ (j : Int) < (n.gates.length : Int) := by omega
        have hjj : j = n.gates.length := by omega
        have hO2 := hO.out
        rw [hjj, ← HL.out] at hO2
        have HO2 := Lib.hid (hO2.row lenJ)
        have HB2 := Lib.hid (HBEL.out.trans (hB.out.mono HBEL.out.size))
        clear hO hB hO2 hjj
        go_wp2_with fail
        go_ret2
        exact ⟨_, by rw [HF0.out]; rfl, HO2.out, HB2.out⟩
end Go.Proofs.Ytimojbjamfckmaa
