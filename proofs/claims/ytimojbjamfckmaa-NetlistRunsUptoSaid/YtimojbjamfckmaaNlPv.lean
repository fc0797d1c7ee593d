/- The program's values and sampled: the words of all nets of a valid netlist, and what follows. Conditions: the netlist is valid, there is a word for each input and flip-flop. -/
import Derived.Test.YtimojbjamfckmaaNlPk
import Derived.Test.YtimojbjamfckmaaNlFo
namespace Go.Proofs.Ytimojbjamfckmaa
open Go Go.RowKit Go.Sort
set_option linter.unusedVariables false
def valAdd (V : List (BitVec 64)) (g : Ga) : List (BitVec 64) := V ++ [lookW g.tab (pickL V g.ins)]
def netW (n : Nl) (x : List (BitVec 64)) (j : Nat) : List (BitVec 64) := (n.gates.take j).foldl valAdd x
def wordX (ins st : List (BitVec 64)) : List (BitVec 64) := 0#64 :: BitVec.allOnes 64 :: (ins ++ st)
theorem netW_succ (n : Nl) (x : List (BitVec 64)) (j : Nat) (hj : j < n.gates.length) : netW n x (j + 1) = netW n x j ++ [lookW n.gates[j]!.tab (pickL (netW n x j) n.gates[j]!.ins)] := by
  unfold netW; rw [tk1 n.gates hj, List.foldl_append]; rfl
theorem netW_len (n : Nl) (x : List (BitVec 64)) (hx : x.length = fstN n) : ∀ j, j ≤ n.gates.length → (netW n x j).length = fstN n + j
  | 0, _ => by simpa [netW] using hx
  | j + 1, h => by rw [netW_succ n x j (by omega), List.length_append, netW_len n x hx j (by omega)]; rfl
theorem wordX_len {n : Nl} {ins st : List (BitVec 64)} (h1 : ins.length = n.ins.length) (h2 : st.length = n.flops.length) : (wordX ins st).length = fstN n := by
  unfold wordX fstN; simp only [List.length_cons, List.length_append]; omega
def wordsN (n : Nl) (ins st : List (BitVec 64)) : List (BitVec 64) := netW n (wordX ins st) n.gates.length
def takeW (V : List (BitVec 64)) (f : Fl) (s : BitVec 64) : BitVec 64 := (V[f.en.toNat]! &&& V[f.d.toNat]!) ||| (~~~ V[f.en.toNat]! &&& s)
def nextW (n : Nl) (V st : List (BitVec 64)) (j : Nat) : List (BitVec 64) := (List.range j).map fun i => takeW V n.flops[i]! st[i]!
theorem nextW_succ (n : Nl) (V st : List (BitVec 64)) (j : Nat) : nextW n V st (j + 1) = nextW n V st j ++ [takeW V n.flops[j]! st[j]!] := by
  unfold nextW; rw [List.range_succ, List.map_append]; rfl
theorem own_arr {α : Type} {f : α → Value} {B g : Nat} {t : TypeId} {L : List α} {w : World} (h : Arr t f g L w) (hB : B ≤ g) (l : Nat) (hl : l ≤ L.length) (hm : L.length ≤ maxLen) : OwnK B t 1 (fun y => [f y]) w (.slice (some ⟨g, 0, none⟩) l L.length) (L.take l) := by
  unfold OwnK
  rw [flat_oneN, List.length_take, Nat.min_eq_left hl]
  refine ⟨by simp; omega, .inr ⟨g, L.length, (L.map f).toArray, rfl, hB, h.blk, hl, hm, by simp, ?_⟩⟩
  simp [List.map_take]
theorem newW (W : World) (x : BitVec 64) : ∀ (q : Nat) (u : Value), (encW x)[q]? = some u → (W.alloc (.cells #[.int .u64 (U x)] 29)).cell? ⟨W.heap.size, q, none⟩ = some u := by
  intro q u hq
  match q, hq with
  | 0, hq => cases hq; go_simp
theorem lenW1 (x : BitVec 64) : (encW x).length = 1 := rfl
set_option maxRecDepth 100000 in
set_option maxHeartbeats 8000000 in
theorem nvalues_any (n : Nl) (v : Value) (ins st : List (BitVec 64)) (vi vs : Value) (vn : VN n) (sg : SmN n) (hi1 : ins.length = n.ins.length) (hs1 : st.length = n.flops.length) (w : World) (hG : NO n v w) (h1 : RowC (fun b => Value.int .u64 (U b)) ins vi w) (h2 : RowC (fun b => Value.int .u64 (U b)) st vs w) : Calls Try.prog 87 #[v, vi, vs] w fun e w' => ∃ u, e = .returned u ∧ OwnK w.heap.size 29 1 encW w' u (wordsN n ins st) ∧ Below w.heap.size w w' := by
  have hG0 := hG
  obtain ⟨a, b, c, d0, e, a', b', c', d', e', rfl, hC, hA⟩ := hG.all
  clear hG
  obtain ⟨ai, ci, rfl, hic, hin, hir⟩ := h1
  obtain ⟨az, cz, rfl, hsc, hsn, hsr⟩ := h2
  have n1 := vn.ins
  have n3 := vn.flops
  have n4 := vn.gates
  have hxl := wordX_len hi1 hs1
  have hli : ins.length ≤ 128 := by omega
  have hls : st.length ≤ 288 := by omega
  clear hi1 hs1
  have HVL := Lib.hid (fun j (hj : j ≤ n.gates.length) => netW_len n (wordX ins st) hxl j hj)
  clear hxl
  go_enter Try.func87, Try.ntmps87
  go_upto_region 1 with fail
  have bel := (Below.refl w.heap.size w).alloc (Nat.le_refl _) (.cells #[.slice a n.ins.length a', .slice b n.outN.length b', .slice c n.flops.length c', .slice d0 n.gates.length d', .slice e n.outs.length e'] 27)
  have X := GX.new w (.slice a n.ins.length a') (.slice b n.outN.length b') (.slice c n.flops.length c') (.slice d0 n.gates.length d') (.slice e n.outs.length e') 27
  generalize w.alloc (.cells #[.slice a n.ins.length a', .slice b n.outN.length b', .slice c n.flops.length c', .slice d0 n.gates.length d', .slice e n.outs.length e'] 27) = W0 at bel X ⊢
  generalize hk : w.heap.size = k at X ⊢
  have HK := Lib.hid hk
  clear hk
  obtain ⟨x0, x1, x2, x3, x4⟩ := id X
  have H1 := Lib.hid (nnets_any n _ sg W0 (hG0.below bel))
  have hmk : ∀ W : World, (Instr.makeSlice 40 (.int .i64 2) (.int .i64 ((netsN n : Nat) : Int))).run Try.prog W = .ok (.slice (some ⟨W.heap.size, 0, none⟩) 2 (netsN n)) (W.alloc (.cells (madeCells #[.int .u64 0] (netsN n)) 29)) := by
    intro W
    have := mkU W 2 (netsN n) (by unfold netsN fstN; omega) (by unfold netsN fstN; omega)
    rwa [show ((2 : Nat) : Int) = 2 from rfl] at this
  have hnn : 2 ≤ netsN n ∧ netsN n ≤ 100000 := by unfold netsN fstN; omega
  go_upto_region 2 with (first | (go_at_call 23; refine H1.out.mono ?_; rintro ee W1 ⟨rfl, hb1⟩))
  have bel1 := bel.trans (hb1.mono bel.size)
  have X1 := X.below hb1
  have A0 : Arr 29 (fun b : BitVec 64 => Value.int .u64 (U b)) W1.heap.size (List.replicate (netsN n) 0#64) (W1.alloc (.cells (madeCells #[.int .u64 0] (netsN n)) 29)) := Arr.made W1 _ 0#64 _
  have bA := (Below.refl W1.heap.size W1).alloc (Nat.le_refl _) (.cells (madeCells #[.int .u64 0] (netsN n)) 29)
  have HX := Lib.hid (fun W (hb : Below W1.heap.size W1 W) => X1.below hb)
  have HA := Lib.hid (fun W (hb : Below W1.heap.size W1 W) => hA.below (bel1.trans (hb.mono bel1.size)))
  have HI := Lib.hid (fun W (hb : Below W1.heap.size W1 W) => hir.below (bel1.trans (hb.mono bel1.size)))
  have HS := Lib.hid (fun W (hb : Below W1.heap.size W1 W) => hsr.below (bel1.trans (hb.mono bel1.size)))
  have HBEL := Lib.hid bel1
  clear x0 x1 x2 x3 x4 X X1 H1 hmk hb1 bel bel1 hA hG0 hC hir hsr
  obtain ⟨hnn2, hnn3⟩ := hnn
  generalize hNN : netsN n = NN at A0 bA hnn2 hnn3 ⊢
  have HNN := Lib.hid hNN
  clear hNN
  generalize W1.alloc (.cells (madeCells #[.int .u64 0] NN) 29) = W2 at A0 bA ⊢
  generalize hg : W1.heap.size = gq at A0 ⊢
  have HG := Lib.hid hg
  clear hg
  have c1 := A0.cell (j := 1) (by rw [List.length_replicate]; omega)
  have f0 := A0.free 1
  have hlt9 := A0.lt
  go_upto_region 3 with fail
  have A1 : Arr 29 (fun b : BitVec 64 => Value.int .u64 (U b)) gq ((List.replicate NN 0#64).set 1 (BitVec.allOnes 64)) (W2.setCell ⟨gq, 1, none⟩ (.int .u64 18446744073709551615)) := A0.set 1 (BitVec.allOnes 64)
  have bA2 := bA.setCell (p := ⟨gq, 1, none⟩) (by have := HG.out; show W1.heap.size ≤ gq; omega) (.int .u64 18446744073709551615)
  have O0 : OwnK W1.heap.size 29 1 encW (W2.setCell ⟨gq, 1, none⟩ (.int .u64 18446744073709551615)) (.slice (some ⟨gq, 0, none⟩) 2 NN) [0#64, BitVec.allOnes 64] := by
    have := own_arr A1 (B := W1.heap.size) (by have := HG.out; omega) 2 (by rw [List.length_set, List.length_replicate]; omega) (by rw [List.length_set, List.length_replicate]; unfold maxLen; omega)
    rw [List.length_set, List.length_replicate] at this
    have e : ((List.replicate NN 0#64).set 1 (BitVec.allOnes 64)).take 2 = [0#64, BitVec.allOnes 64] := by
      obtain ⟨m, rfl⟩ : ∃ m, NN = m + 2 := ⟨NN - 2, by omega⟩
      rw [List.replicate_succ, List.replicate_succ]
      rfl
    rwa [e] at this
  clear A0 A1 bA c1 f0 hlt9
  generalize W2.setCell ⟨gq, 1, none⟩ (.int .u64 18446744073709551615) = W3 at O0 bA2 ⊢
  obtain ⟨i0, ihi, ihz, ihs, ihb⟩ := infoMU_parts
  go_cut [7] (fun s7 wx => OwnK W1.heap.size 29 1 encW wx s7 (wordX ins st) ∧ Below W1.heap.size W1 wx)
  case first =>
    have hs2 := bA2.size
    have HI2 := HI.out _ bA2
    go_wp2_with (at_builtin; refine wpList_append_row2 (f := fun b : BitVec 64 => Value.int .u64 (U b)) (fun _ => rfl) rfl _ _ 40 rfl (W1.heap.size) 29 i0 (.int .u64 0) 8 Try.underlying40 ihi ihz ihs ihb (by decide) _ ([0#64, BitVec.allOnes 64]) rfl O0.ownN _ ins _ rfl hin hic HI2 (by unfold maxLen; first | omega | (simp; omega)) (by first | omega | (simp; omega)) (by first | omega | (simp; omega)) ?_)
    intro v5 w5 O5 hb5 hg5
    obtain ⟨ad5, cp5, hv5⟩ := O5.ownKN.slice
    subst hv5
    have B5 := bA2.trans hb5
    have hs5 := B5.size
    have HS2 := HS.out _ B5
    go_wp2_with (at_builtin; refine wpList_append_row2 (f := fun b : BitVec 64 => Value.int .u64 (U b)) (fun _ => rfl) rfl _ _ 40 rfl (W1.heap.size) 29 i0 (.int .u64 0) 8 Try.underlying40 ihi ihz ihs ihb (by decide) _ ([0#64, BitVec.allOnes 64] ++ ins) rfl O5 _ st _ rfl hsn hsc HS2 (by unfold maxLen; first | omega | (simp; omega)) (by first | omega | (simp; omega)) (by first | omega | (simp; omega)) ?_)
    intro v6 w6 O6 hb6 hg6
    have O7 : OwnK W1.heap.size 29 1 encW w6 v6 (wordX ins st) := by have := O6.ownKN; simpa [wordX] using this
    have B6 := B5.trans hb6
    clear O5 O6 hb5 hb6 hg5 hg6
    go_wp2_with fail
    go_meet
    exact ⟨O7, B6⟩
  case rest =>
  obtain ⟨O1, B1⟩ := hcut
  clear O0 bA2
  have HV0 : Hid (wordsN n ins st = netW n (wordX ins st) n.gates.length) := Lib.hid rfl
  have O2 : OwnK W1.heap.size 29 1 encW _ _ (netW n (wordX ins st) 0) := O1
  clear O1
  obtain ⟨x0, x1, x2, x3, x4⟩ := HX.out _ B1
  go_upto_block 0 with fail
  clear x0 x1 x2 x3 x4
  generalize wordX ins st = xx at O2 HVL HV0
  go_wp2_with fail
  go_loopw [7, 23] (fun u i wr => ∃ j : Nat, j ≤ n.gates.length ∧ i = .int .i64 (j : Int) ∧ Hid (OwnK W1.heap.size 29 1 encW wr u (netW n xx j)) ∧ Hid (Below W1.heap.size W1 wr)) (fun _ i _ => n.gates.length - (intOf i).toNat)
  case atStart => exact ⟨0, Nat.zero_le _, rfl, Lib.hid O2, Lib.hid B1⟩
  case round =>
    clear O2 B1
    obtain ⟨j, hj, rfl, hO, hB⟩ := hrel
    rename World => WG
    have hj0 : (0 : Int) ≤ (j : Int) := by omega
    by_cases hlt : j < n.gates.length
    · have hji : (j : Int) < (n.gates.length : Int) := by omega
      have hLN := HVL.out j hj
      have HT := Lib.hid (netW_succ n xx j hlt)
      have hin2 := vn.nets j hlt
      have h6 := vn.pins j hlt
      have HLN : (netW n xx j).length ≤ 100000 := by rw [hLN]; unfold fstN; omega
      have hA1 := HA.out _ hB.out
      have hI := hA1.each j hlt
      obtain ⟨bb, oo, hdd, hcell⟩ := hA1.gates.pick (by omega)
      subst hdd
      have c0 := hcell j hlt 0 _ rfl
      have c1 := hcell j hlt 1 _ rfl
      have c2 := hcell j hlt 2 _ rfl
      simp only [Nat.add_zero] at c0
      clear hcell hA1
      generalize n.gates[j]! = y at c0 c1 c2 HT hI hin2 h6
      obtain ⟨y0, y1, y2, y3, y4⟩ := y
      obtain ⟨hr, hcp, hnl⟩ := hI
      simp only at c0 c1 c2 HT hr hcp hnl hin2 h6
      have HIN := Lib.hid (show ∀ x ∈ y2, 0 ≤ x ∧ x < ((netW n xx j).length : Int) from fun x hx => by rw [hLN]; exact hin2 x hx)
      clear hin2 hLN
      generalize hV : netW n xx j = V at hO HT HIN HLN
      have HV := Lib.hid hV
      clear hV
      obtain ⟨ad, cp, hv⟩ := hO.out.slice
      subst hv
      have hB5 := hB.out
      have hO5 := hO.out
      clear hB hO
      go_upto_region 7 with fail
      have bA := (Below.refl WG.heap.size WG).alloc (Nat.le_refl _) (.cells #[.int .i64 y0, .int .u64 (U y1), .slice y3 y2.length y4] 82)
      have z1 : (WG.alloc (.cells #[.int .i64 y0, .int .u64 (U y1), .slice y3 y2.length y4] 82)).cell? ⟨WG.heap.size, 1, none⟩ = some (.int .u64 (U y1)) := by go_simp
      have z2 : (WG.alloc (.cells #[.int .i64 y0, .int .u64 (U y1), .slice y3 y2.length y4] 82)).cell? ⟨WG.heap.size, 2, none⟩ = some (.slice y3 y2.length y4) := by go_simp

      generalize WG.alloc (.cells #[.int .i64 y0, .int .u64 (U y1), .slice y3 y2.length y4] 82) = WH at z1 z2 bA ⊢
      generalize WG.heap.size = q10 at z1 z2 ⊢
      have hB6 := hB5.trans (bA.mono hB5.size)
      have hO6 := hO5.below bA
      have hr6 := hr.below bA
      clear c0 c1 c2 bA hr hB5 hO5
      have HBS := Lib.hid (fun d os => below_regrown WH d os)
      have HP := Lib.hid (fun W (hb : Below WH.heap.size WH W) => (pickedW_any V y2 _ (.slice y3 y2.length y4) (by omega) HIN.out W ((hO6.row lenW1).below hb) (RowOf.mk hcp (hr6.below hb))).mono fun e w' ⟨q, e1, A1, _, hb1⟩ => show ∃ u, e = Ending.returned u ∧ RowOf 1 encW (pickL V y2) u w' ∧ Below W.heap.size W w' from ⟨_, e1, (A1.rowc _ (by unfold pickL; exact List.length_map _)).row, hb1⟩)
      have HLK := Lib.hid (fun u1 W (h : RowOf 1 encW (pickL V y2) u1 W) => look_any y1 (pickL V y2) u1 (by unfold pickL; rw [List.length_map]; omega) W h)
      generalize lookW y1 (pickL V y2) = lk at HT HLK
      generalize pickL V y2 = PL at HP HLK
      have g1 := cell_regrown z1
      have g2 := cell_regrown z2
      clear z1 z2
      refine wp_region_rel 9 (by kernel_rfl) (by kernel_rfl) ?_
      simp only [List.take_succ_cons, List.take_zero, List.drop_succ_cons, List.drop_zero]
      (refine rel_fix0 (fun K hK => ?_); go_simp; refine hK _ ?_; clear hK K)
      (refine rel_fix0 (fun K hK => ?_); go_simp; refine hK _ ?_; clear hK K)
      (refine rel_fix0 (fun K hK => ?_); go_simp; refine hK _ ?_; clear hK K)
      (refine rel_fix0 (fun K hK => ?_); go_simp; refine hK _ ?_; clear hK K)
      (refine rel_fix0 (fun K hK => ?_); go_simp; refine hK _ ?_; clear hK K)
      (refine rel_fix0 (fun K hK => ?_); go_simp; refine hK _ ?_; clear hK K)
      refine rel_fact [] (RowOf 1 encW PL) 33 rfl (by simp [Act.put]) (row_sta _ _ _) (by rfl) (by kernel_rfl) (by kernel_rfl) ?_ ?_
      · intro d os
        simp only [relAll]
        go_simp
        exact ret_fact (HP.out _ (HBS.out _ _))
      refine rel_use [(33, _)] (.int .u64 (U lk)) (by rfl) (by kernel_rfl) (by kernel_rfl) ?_ ?_
      · intro d os
        simp only [relAll]
        rintro u1 r1
        go_simp
        exact ret_fix (HLK.out _ _ r1)
      refine rel_fact [] (FK [.int .u64 (U lk)]) 35 rfl (by simp [Act.put]) (fk_sta _) (by rfl) (by kernel_rfl) (by kernel_rfl) ?_ ?_
      · intro d os
        simp only [relAll]
        go_simp
        refine ⟨⟨_, rfl, fun q u hq => ?_⟩, (Below.refl _ _).alloc (Nat.le_of_eq (by simp)) _⟩
        match q, hq with
        | 0, hq => cases hq; go_simp
      refine rel_nil ?_
      intro d os
      simp only [relAll]
      rintro v35 ⟨r35, rfl, hy⟩ v33 -
      have hb5 := HBS.out d os
      have O7 := hO6.below hb5
      have B7 := hB6.trans (hb5.mono hB6.size)
      have hs7 := B7.size
      clear g1 g2 HBS hO6 hB6 hb5 HP HLK
      generalize grow (redrawn WH d) os = W7 at hy O7 B7 hs7 ⊢
      refine wpList_append_one (enc := encW) (k := 1) (fun _ => rfl) (by decide) (fun x u hu => by simp at hu; rcases hu with rfl; rfl) rfl _ _ 40 rfl (W1.heap.size) 29 i0 (.int .u64 0) 8 Try.underlying40 ihi ihz ihs ihb (by decide) _ V rfl O7 r35 1 lk rfl hy (show V.length + 1 ≤ maxLen by unfold maxLen; omega) (show (V.length + 1) * 8 ≤ 140737488355328 by omega) (by first | omega | (simp; omega)) ?_
      intro v8 w8 O8 hb8 hg8
      have HO8 := Lib.hid O8
      have HB8 := Lib.hid (B7.trans hb8)
      clear O7 B7 O8 hb8 hg8 hy
      go_wp2_with fail
      go_roundw
      case rel => exact ⟨j + 1, by omega, by go_num, (by rw [HT.out]; exact HO8), HB8⟩
      all_goals first | done | (simp [intOf]; done) | (simp [intOf]; omega)
    · have hji : ¬ (j : Int) < (n.gates.length : Int) := by omega
      have hO2 := hO.out
      rw [show j = n.gates.length by omega, ← HV0.out] at hO2
      have HO8 := Lib.hid (hO2.mono1 HBEL.out.size)
      have HB8 := Lib.hid (HBEL.out.trans (hB.out.mono HBEL.out.size))
      clear hO hB hO2
      go_wp2_with fail
      go_ret
      exact ⟨_, rfl, HO8.out, HB8.out⟩
set_option maxRecDepth 100000 in
set_option maxHeartbeats 16000000 in
theorem sampledN_any (n : Nl) (v : Value) (V st : List (BitVec 64)) (vv vs : Value) (vn : VN n) (hVL : V.length = netsN n) (hs1 : st.length = n.flops.length) (w : World) (hG : NO n v w) (h1 : RowOf 1 encW V vv w) (h2 : RowOf 1 encW st vs w) : Calls Try.prog 88 #[v, vv, vs] w fun e w' => ∃ vo vx, e = .returned (.tuple #[vo, vx]) ∧ RowC (fun b => Value.int .u64 (U b)) (pickL V n.outs) vo w' ∧ RowC (fun b => Value.int .u64 (U b)) (nextW n V st n.flops.length) vx w' ∧ Below w.heap.size w w' := by
  have hG0 := hG
  obtain ⟨a, b, c, d0, e, a', b', c', d', e', rfl, hC, hA⟩ := hG.all
  clear hG
  obtain ⟨av, cv, rfl, hcv, RV⟩ := h1.open'
  obtain ⟨az, cz, rfl, hcz, RS⟩ := h2.open'
  have n1 := vn.ins
  have n3 := vn.flops
  have n4 := vn.gates
  have n5 : n.outs.length ≤ 128 := by have := vn.same; have := vn.outN; omega
  have HVI := Lib.hid (show ∀ j, j < n.flops.length → (0 ≤ n.flops[j]!.d ∧ n.flops[j]!.d < (V.length : Int)) ∧ (0 ≤ n.flops[j]!.en ∧ n.flops[j]!.en < (V.length : Int)) from fun j hj => by rw [hVL]; exact ⟨vn.d j hj, vn.en j hj⟩)
  have HOI := Lib.hid (show ∀ x ∈ n.outs, 0 ≤ x ∧ x < (V.length : Int) from fun x hx => by rw [hVL]; exact vn.out x hx)
  have HSL := Lib.hid hs1
  clear hVL hs1
  go_enter Try.func88, Try.ntmps88
  go_upto_region 1 with fail
  have bel := (Below.refl w.heap.size w).alloc (Nat.le_refl _) (.cells #[.slice a n.ins.length a', .slice b n.outN.length b', .slice c n.flops.length c', .slice d0 n.gates.length d', .slice e n.outs.length e'] 27)
  have X := GX.new w (.slice a n.ins.length a') (.slice b n.outN.length b') (.slice c n.flops.length c') (.slice d0 n.gates.length d') (.slice e n.outs.length e') 27
  generalize w.alloc (.cells #[.slice a n.ins.length a', .slice b n.outN.length b', .slice c n.flops.length c', .slice d0 n.gates.length d', .slice e n.outs.length e'] 27) = W0 at bel X ⊢
  generalize hk : w.heap.size = k at X ⊢
  have HK := Lib.hid hk
  clear hk
  obtain ⟨x0, x1, x2, x3, x4⟩ := id X
  have HX := Lib.hid (fun W (hb : Below W0.heap.size W0 W) => X.below hb)
  have HA := Lib.hid (fun W (hb : Below W0.heap.size W0 W) => hA.below (bel.trans (hb.mono bel.size)))
  have HRV := Lib.hid (fun W (hb : Below W0.heap.size W0 W) => RV.below (bel.trans (hb.mono bel.size)))
  have HRS := Lib.hid (fun W (hb : Below W0.heap.size W0 W) => RS.below (bel.trans (hb.mono bel.size)))
  have HBEL := Lib.hid bel
  have HC := Lib.hid hC
  obtain ⟨i0, ihi, ihz, ihs, ihb⟩ := infoMU_parts
  have O1 : OwnK W0.heap.size 29 1 encW W0 (.slice none 0 0) (nextW n V st 0) := OwnK.nil _ _ _ _ _
  clear X hA hG0 hC bel RV RS h1 h2
  go_upto_block 0 with fail
  clear x0 x1 x2 x3 x4
  go_wp2_with fail
  go_loopw [7, 13] (fun u i wr => ∃ j : Nat, j ≤ n.flops.length ∧ i = .int .i64 (j : Int) ∧ Hid (OwnK W0.heap.size 29 1 encW wr u (nextW n V st j)) ∧ Hid (Below W0.heap.size W0 wr)) (fun _ i _ => n.flops.length - (intOf i).toNat)
  case atStart => exact ⟨0, Nat.zero_le _, rfl, Lib.hid O1, Lib.hid (Below.refl _ _)⟩
  case round =>
    clear O1
    obtain ⟨j, hj, rfl, hO, hB⟩ := hrel
    rename World => WF
    have hj0 : (0 : Int) ≤ (j : Int) := by omega
    by_cases hlt : j < n.flops.length
    · have hji : (j : Int) < (n.flops.length : Int) := by omega
      have hjs : (j : Int) < (st.length : Int) := by have := HSL.out; omega
      have HT := Lib.hid (nextW_succ n V st j)
      have HL : (nextW n V st j).length ≤ 100000 := by unfold nextW; rw [List.length_map, List.length_range]; omega
      obtain ⟨⟨hd0, hd1⟩, he0, he1⟩ := HVI.out j hlt
      have hB1 := hB.out
      obtain ⟨bb, oo, hdd, hcell⟩ := (HA.out _ hB1).flops.pick (by omega)
      subst hdd
      have c0 := hcell j hlt 0 _ rfl
      have c1 := hcell j hlt 1 _ rfl
      have c2 := hcell j hlt 2 _ rfl
      have c3 := hcell j hlt 3 _ rfl
      have c4 := hcell j hlt 4 _ rfl
      simp only [Nat.add_zero] at c0
      clear hcell
      generalize n.flops[j]! = r at c0 c1 c2 c3 c4 HT hd0 hd1 he0 he1
      obtain ⟨r0, r1, r2, r3, r4⟩ := r
      simp only at c0 c1 c2 c3 c4 hd0 hd1 he0 he1
      generalize nextW n V st j = L at hO HT HL
      obtain ⟨ad, cp, hv⟩ := hO.out.slice
      subst hv
      have hO5 := hO.out
      clear hB hO
      go_upto_region 4 with fail
      have bA := (Below.refl WF.heap.size WF).alloc (Nat.le_refl _) (.cells #[.string r0, .int .i64 r1, .int .i64 r2, .int .i64 r3, .bool r4] 84)
      have z0 : (WF.alloc (.cells #[.string r0, .int .i64 r1, .int .i64 r2, .int .i64 r3, .bool r4] 84)).cell? ⟨WF.heap.size, 0, none⟩ = some (.string r0) := by go_simp
      have z1 : (WF.alloc (.cells #[.string r0, .int .i64 r1, .int .i64 r2, .int .i64 r3, .bool r4] 84)).cell? ⟨WF.heap.size, 1, none⟩ = some (.int .i64 r1) := by go_simp
      have z2 : (WF.alloc (.cells #[.string r0, .int .i64 r1, .int .i64 r2, .int .i64 r3, .bool r4] 84)).cell? ⟨WF.heap.size, 2, none⟩ = some (.int .i64 r2) := by go_simp
      have z3 : (WF.alloc (.cells #[.string r0, .int .i64 r1, .int .i64 r2, .int .i64 r3, .bool r4] 84)).cell? ⟨WF.heap.size, 3, none⟩ = some (.int .i64 r3) := by go_simp
      have z4 : (WF.alloc (.cells #[.string r0, .int .i64 r1, .int .i64 r2, .int .i64 r3, .bool r4] 84)).cell? ⟨WF.heap.size, 4, none⟩ = some (.bool r4) := by go_simp

      generalize WF.alloc (.cells #[.string r0, .int .i64 r1, .int .i64 r2, .int .i64 r3, .bool r4] 84) = WS at z0 z1 z2 z3 z4 bA ⊢
      generalize WF.heap.size = q10 at z0 z1 z2 z3 z4 ⊢
      have hB6 := hB1.trans (bA.mono hB1.size)
      have hO6 := hO5.below bA
      obtain ⟨b4, o4, hdd, hcell⟩ := (HRV.out _ hB6).pick (by omega)
      subst hdd
      have v0 := hcell r3.toNat (by omega) 0 _ rfl
      have v1 := hcell r2.toNat (by omega) 0 _ rfl
      simp only [Nat.mul_one, Nat.add_zero] at v0 v1
      clear hcell
      obtain ⟨b5, o5, hdd, hcell⟩ := (HRS.out _ hB6).pick (by omega)
      subst hdd
      have v2 := hcell j (by omega) 0 _ rfl
      simp only [Nat.mul_one, Nat.add_zero] at v2
      clear hcell c0 c1 c2 c3 c4 bA hO5 hB1
      have HT2 := Lib.hid (show takeW V ⟨r0, r1, r2, r3, r4⟩ st[j]! = (V[r3.toNat]! &&& V[r2.toNat]!) ||| (~~~ V[r3.toNat]! &&& st[j]!) from rfl)
      generalize takeW V ⟨r0, r1, r2, r3, r4⟩ st[j]! = z at HT HT2
      generalize V[r3.toNat]! = e1 at v0 HT2
      generalize V[r2.toNat]! = e2 at v1 HT2
      generalize st[j]! = e3 at v2 HT2
      have hn : bits BinOp.xor IntKind.u64 IntKind.u64.max (U e1) = U (~~~ e1) := notU2 e1
      have HBS := Lib.hid (fun d os => below_regrown WS d os)
      have g1 := cell_regrown z2
      have g2 := cell_regrown z3
      have g3 := cell_regrown v0
      have g4 := cell_regrown v1
      have g5 := cell_regrown v2
      clear z0 z1 z2 z3 z4 v0 v1 v2
      refine wp_region_rel 25 (by kernel_rfl) (by kernel_rfl) ?_
      simp only [List.take_succ_cons, List.take_zero, List.drop_succ_cons, List.drop_zero]
      (refine rel_fix0 (fun K hK => ?_); go_simp; refine hK _ ?_; clear hK K)
      (refine rel_fix0 (fun K hK => ?_); go_simp; refine hK _ ?_; clear hK K)
      (refine rel_fix0 (fun K hK => ?_); go_simp; refine hK _ ?_; clear hK K)
      (refine rel_fix0 (fun K hK => ?_); go_simp; refine hK _ ?_; clear hK K)
      (refine rel_fix0 (fun K hK => ?_); go_simp; refine hK _ ?_; clear hK K)
      (refine rel_fix0 (fun K hK => ?_); go_simp; refine hK _ ?_; clear hK K)
      (refine rel_fix0 (fun K hK => ?_); go_simp; refine hK _ ?_; clear hK K)
      (refine rel_fix0 (fun K hK => ?_); go_simp; refine hK _ ?_; clear hK K)
      (refine rel_fix0 (fun K hK => ?_); go_simp; refine hK _ ?_; clear hK K)
      (refine rel_fix0 (fun K hK => ?_); go_simp; refine hK _ ?_; clear hK K)
      (refine rel_fix0 (fun K hK => ?_); go_simp; refine hK _ ?_; clear hK K)
      (refine rel_fix0 (fun K hK => ?_); go_simp; refine hK _ ?_; clear hK K)
      (refine rel_fix0 (fun K hK => ?_); go_simp; refine hK _ ?_; clear hK K)
      (refine rel_fix0 (fun K hK => ?_); go_simp; refine hK _ ?_; clear hK K)
      (refine rel_fix0 (fun K hK => ?_); go_simp; refine hK _ ?_; clear hK K)
      (refine rel_fix0 (fun K hK => ?_); go_simp; refine hK _ ?_; clear hK K)
      (refine rel_fix0 (fun K hK => ?_); go_simp; refine hK _ ?_; clear hK K)
      (refine rel_fix0 (fun K hK => ?_); go_simp; refine hK _ ?_; clear hK K)
      (refine rel_fix0 (fun K hK => ?_); go_simp; refine hK _ ?_; clear hK K)
      (refine rel_fix0 (fun K hK => ?_); go_simp; refine hK _ ?_; clear hK K)
      (refine rel_fix0 (fun K hK => ?_); go_simp; refine hK _ ?_; clear hK K)
      (refine rel_fix0 (fun K hK => ?_); go_simp; refine hK _ ?_; clear hK K)
      (refine rel_fix0 (fun K hK => ?_); go_simp; refine hK _ ?_; clear hK K)
      (refine rel_fix0 (fun K hK => ?_); go_simp; refine hK _ ?_; clear hK K)
      refine rel_fact [] (FK [.int .u64 (U ((e1 &&& e2) ||| (~~~ e1 &&& e3)))]) 42 rfl (by simp [Act.put]) (fk_sta _) (by rfl) (by kernel_rfl) (by kernel_rfl) ?_ ?_
      · intro d os
        simp only [relAll]
        go_simp
        refine ⟨⟨_, rfl, fun q u hq => ?_⟩, (Below.refl _ _).alloc (Nat.le_of_eq (by simp)) _⟩
        match q, hq with
        | 0, hq => cases hq; go_simp; rw [show (if IntKind.u64.signed = true then (-1 : Int) else IntKind.u64.max) = 18446744073709551615 from rfl, notU2, U_and, U_or]
      refine rel_nil ?_
      intro d os
      simp only [relAll]
      rintro v42 ⟨r42, rfl, hy⟩
      have hb5 := HBS.out d os
      have O7 := hO6.below hb5
      have B7 := hB6.trans (hb5.mono hB6.size)
      have hs7 := B7.size
      rw [← HT2.out] at hy
      clear g1 g2 g3 g4 g5 HBS hO6 hB6 hb5 HT2 hn
      generalize grow (redrawn WS d) os = W7 at hy O7 B7 hs7 ⊢
      refine wpList_append_one (enc := encW) (k := 1) (fun _ => rfl) (by decide) (fun x u hu => by simp at hu; rcases hu with rfl; rfl) rfl _ _ 40 rfl (W0.heap.size) 29 i0 (.int .u64 0) 8 Try.underlying40 ihi ihz ihs ihb (by decide) _ L rfl O7 r42 1 z rfl hy (show L.length + 1 ≤ maxLen by unfold maxLen; omega) (show (L.length + 1) * 8 ≤ 140737488355328 by omega) (by first | omega | (simp; omega)) ?_
      intro v8 w8 O8 hb8 hg8
      have HO8 := Lib.hid O8
      have HB8 := Lib.hid (B7.trans hb8)
      rw [← HT.out] at HO8
      clear O7 B7 O8 hb8 hg8 hy
      go_wp2_with fail
      go_roundw
      case rel => exact ⟨j + 1, by omega, by go_num, HO8, HB8⟩
      all_goals first | done | (simp [intOf]; done) | (simp [intOf]; omega)
    · have hji : ¬ (j : Int) < (n.flops.length : Int) := by omega
      have hO2 := hO.out
      rw [show j = n.flops.length by omega] at hO2
      obtain ⟨ao, co, eo, hco, hno, RO⟩ := hO2.ownN.rowC
      subst eo
      have hB2 := hB.out
      have HPK := Lib.hid (pickedW_any V n.outs _ _ (by omega) HOI.out WF (RowOf.mk hcv (HRV.out _ hB2)) (RowOf.mk HC.out.outs (HA.out _ hB2).outs))
      clear hO hB hO2
      obtain ⟨x0, x1, x2, x3, x4⟩ := HX.out _ hB2
      go_wp2_with (first | (go_at_call 127; refine HPK.out.mono ?_; rintro ee w1 ⟨q1, rfl, A1, hq1, hb1⟩))
      go_ret2
      exact ⟨_, _, rfl, A1.rowc _ (by unfold pickL; exact List.length_map _), ⟨_, _, rfl, hco, hno, RO.below hb1⟩, HBEL.out.trans ((hB2.trans (hb1.mono hB2.size)).mono HBEL.out.size)⟩
end Go.Proofs.Ytimojbjamfckmaa
