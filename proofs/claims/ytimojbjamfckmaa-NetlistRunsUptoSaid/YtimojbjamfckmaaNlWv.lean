/- The program's Values and Words; the lanes of what they answer. Condition: the sizes of a netlist that came in. -/
import Derived.Test.YtimojbjamfckmaaNlPv
import Derived.Test.YtimojbjamfckmaaNlNc
namespace Go.Proofs.Ytimojbjamfckmaa
open Go Go.RowKit Go.Sort
set_option linter.unusedVariables false
def widN (n : Nl) (a b : Int) : Int := if faultN n = 0 then (if a = (n.ins.length : Int) ∧ b = (n.flops.length : Int) then 0 else 20) else faultN n
def valR (n : Nl) (ins st : List (BitVec 64)) : List (BitVec 64) := if widN n ins.length st.length = 0 then wordsN n ins st else []
def outR (n : Nl) (ins st : List (BitVec 64)) : List (BitVec 64) := if widN n ins.length st.length = 0 then pickL (wordsN n ins st) n.outs else []
def nexR (n : Nl) (ins st : List (BitVec 64)) : List (BitVec 64) := if widN n ins.length st.length = 0 then nextW n (wordsN n ins st) st n.flops.length else []
theorem widN_zero {n : Nl} {a b : Nat} (h : widN n a b = 0) : faultN n = 0 ∧ a = n.ins.length ∧ b = n.flops.length := by
  unfold widN at h
  by_cases hf : faultN n = 0
  · rw [if_pos hf] at h
    split at h
    · rename_i q; exact ⟨hf, by omega, by omega⟩
    · omega
  · rw [if_neg hf] at h; exact absurd h hf
/-- the bit of a lane -/
def bitK (k : Nat) (b : BitVec 64) : Bool := b.getLsbD k
theorem numL_B (k : Nat) : ∀ l : List (BitVec 64), numL k l = numB (l.map (bitK k))
  | [] => rfl
  | b :: l => by rw [numL, numL_B k l, List.map_cons, numB]; rfl
theorem look_bit (t : BitVec 64) (l : List (BitVec 64)) (hl : l.length ≤ 6) (k : Nat) (hk : k < 64) : bitK k (lookW t l) = t.getLsbD (numB (l.map (bitK k))) := by
  unfold bitK lookW
  rw [if_neg (by omega), bitsW_get _ k hk, decide_eq_true hk, Bool.true_and, numL_B]
  rfl
theorem get_bit {V : List (BitVec 64)} (k i : Nat) (hi : i < V.length) : (V.map (bitK k))[i]! = bitK k V[i]! := by
  rw [getElem!_pos _ i (by simpa using hi), getElem!_pos V i hi, List.getElem_map]
theorem pick_bit (V : List (BitVec 64)) (P : List Int) (k : Nat) (h : ∀ x ∈ P, 0 ≤ x ∧ x < (V.length : Int)) : (pickL V P).map (bitK k) = pickL (V.map (bitK k)) P := by
  unfold pickL
  rw [List.map_map]
  apply List.map_congr_left
  intro x hx
  have := h x hx
  exact (get_bit k x.toNat (by omega)).symm
theorem net_bit (n : Nl) (vn : VN n) (x : List (BitVec 64)) (hx : x.length = fstN n) (k : Nat) (hk : k < 64) : ∀ j, j ≤ n.gates.length → (netW n x j).map (bitK k) = netV n (x.map (bitK k)) j
  | 0, _ => rfl
  | j + 1, h => by
    have ih := net_bit n vn x hx k hk j (by omega)
    have hl := netW_len n x hx j (by omega)
    have hin : ∀ y ∈ n.gates[j]!.ins, 0 ≤ y ∧ y < ((netW n x j).length : Int) := fun y hy => by rw [hl]; exact vn.nets j (by omega) y hy
    rw [netW_succ n x j (by omega), netV_succ n _ j (by omega), List.map_append, ih, ← ih, ← pick_bit _ _ k hin]
    congr 1
    show [bitK k _] = _
    rw [look_bit _ _ (by unfold pickL; rw [List.length_map]; exact vn.pins j (by omega)) k hk]
theorem wordX_bit (ins st : List (BitVec 64)) (k : Nat) (hk : k < 64) : (wordX ins st).map (bitK k) = netX (ins.map (bitK k)) (st.map (bitK k)) := by
  unfold wordX netX
  simp only [List.map_cons, List.map_append]
  have h1 : bitK k 0#64 = false := by unfold bitK; simp
  have h2 : bitK k (BitVec.allOnes 64) = true := by unfold bitK; rw [BitVec.getLsbD_allOnes, decide_eq_true hk]
  rw [h1, h2]
theorem words_bit (n : Nl) (vn : VN n) (ins st : List (BitVec 64)) (h1 : ins.length = n.ins.length) (h2 : st.length = n.flops.length) (k : Nat) (hk : k < 64) : (wordsN n ins st).map (bitK k) = valsN n (ins.map (bitK k)) (st.map (bitK k)) := by
  unfold wordsN valsN
  rw [net_bit n vn _ (wordX_len h1 h2) k hk _ (Nat.le_refl _), wordX_bit ins st k hk]
theorem wordsN_len (n : Nl) (ins st : List (BitVec 64)) (h1 : ins.length = n.ins.length) (h2 : st.length = n.flops.length) : (wordsN n ins st).length = netsN n := netW_len n _ (wordX_len h1 h2) _ (Nat.le_refl _)
theorem out_bit (n : Nl) (vn : VN n) (ins st : List (BitVec 64)) (h1 : ins.length = n.ins.length) (h2 : st.length = n.flops.length) (k : Nat) (hk : k < 64) : (pickL (wordsN n ins st) n.outs).map (bitK k) = showN n (ins.map (bitK k)) (st.map (bitK k)) := by
  rw [pick_bit _ _ k (fun x hx => by rw [wordsN_len n ins st h1 h2]; exact vn.out x hx), words_bit n vn ins st h1 h2 k hk]
  rfl
theorem next_bit (n : Nl) (vn : VN n) (ins st : List (BitVec 64)) (h1 : ins.length = n.ins.length) (h2 : st.length = n.flops.length) (k : Nat) (hk : k < 64) : (nextW n (wordsN n ins st) st n.flops.length).map (bitK k) = stepN n (ins.map (bitK k)) (st.map (bitK k)) := by
  have hw := words_bit n vn ins st h1 h2 k hk
  have hl := wordsN_len n ins st h1 h2
  have hx := netX_len (n := n) (ins := ins.map (bitK k)) (st := st.map (bitK k)) (by rw [List.length_map]; exact h1) (by rw [List.length_map]; exact h2)
  unfold nextW stepN nextB
  rw [List.map_map]
  apply List.map_congr_left
  intro i hi
  have hi2 : i < n.flops.length := List.mem_range.1 hi
  have hd := vn.d i hi2
  have he := vn.en i hi2
  show bitK k (takeW _ _ _) = _
  unfold takeW takeB
  rw [← hw, get_bit k _ (by omega), get_bit k _ (by omega)]
  have h3 : ((wordsN n ins st).map (bitK k))[2 + (ins.map (bitK k)).length + i]! = bitK k st[i]! := by
    rw [hw]
    unfold valsN
    have hlow : 2 + (ins.map (bitK k)).length + i < fstN n := by rw [List.length_map, h1]; unfold fstN; omega
    rw [netV_low n _ hx _ (Nat.le_refl _) _ hlow]
    unfold netX
    rw [show 2 + (ins.map (bitK k)).length + i = (((ins.map (bitK k)).length + i) + 1) + 1 by omega]
    have hii : (ins.map (bitK k)).length + i < (ins.map (bitK k) ++ st.map (bitK k)).length := by rw [List.length_append, List.length_map, List.length_map]; omega
    rw [getElem!_pos _ _ (by simp only [List.length_cons]; omega), List.getElem_cons_succ, List.getElem_cons_succ, List.getElem_append_right (by omega), getElem!_pos st i (by omega)]
    simp
  rw [h3]
  unfold bitK
  rw [BitVec.getLsbD_or, BitVec.getLsbD_and, BitVec.getLsbD_and, BitVec.getLsbD_not, decide_eq_true hk, Bool.true_and]
  cases (wordsN n ins st)[n.flops[i]!.en.toNat]!.getLsbD k <;> simp
theorem beqn {a b : Int} (h : ¬ a = b) : (a == b) = false ∧ (a != b) = true := by
  have q : (a == b) = false := beq_eq_false_iff_ne.2 h
  exact ⟨q, by simp [bne, q]⟩
theorem beqy {a b : Int} (h : a = b) : (a == b) = true ∧ (a != b) = false := by
  have q : (a == b) = true := beq_iff_eq.2 h
  exact ⟨q, by simp [bne, q]⟩
set_option maxRecDepth 100000 in
set_option maxHeartbeats 8000000 in
theorem valuesN_any (n : Nl) (v : Value) (ins st : List (BitVec 64)) (vi vs : Value) (sg : SmN n) (hin : ins.length ≤ 4000000000) (hst : st.length ≤ 4000000000) (w : World) (hG : NO n v w) (h1 : RowC (fun b => Value.int .u64 (U b)) ins vi w) (h2 : RowC (fun b => Value.int .u64 (U b)) st vs w) : Calls Try.prog 29 #[v, vi, vs] w fun e w' => ∃ vv, e = .returned (.tuple #[vv, .int .i64 (widN n ins.length st.length)]) ∧ RowOf 1 encW (valR n ins st) vv w' ∧ Below w.heap.size w w' := by
  have hG0 := hG
  obtain ⟨a, b, c, d0, e, a', b', c', d', e', rfl, hC, hA⟩ := hG.all
  clear hG
  have s1 := sg.ins
  have s3 := sg.flops
  have HI := Lib.hid (fun W (hb : Below w.heap.size w W) => h1.below hb)
  have HS := Lib.hid (fun W (hb : Below w.heap.size w W) => h2.below hb)
  obtain ⟨ai, ci, rfl, _, _, _⟩ := h1
  obtain ⟨az, cz, rfl, _, _, _⟩ := h2
  go_enter Try.func29, Try.ntmps29
  go_upto_region 1 with fail
  have bel := (Below.refl w.heap.size w).alloc (Nat.le_refl _) (.cells #[.slice a n.ins.length a', .slice b n.outN.length b', .slice c n.flops.length c', .slice d0 n.gates.length d', .slice e n.outs.length e'] 27)
  have X := GX.new w (.slice a n.ins.length a') (.slice b n.outN.length b') (.slice c n.flops.length c') (.slice d0 n.gates.length d') (.slice e n.outs.length e') 27
  generalize w.alloc (.cells #[.slice a n.ins.length a', .slice b n.outN.length b', .slice c n.flops.length c', .slice d0 n.gates.length d', .slice e n.outs.length e'] 27) = W0 at bel X ⊢
  generalize hk : w.heap.size = k at X ⊢
  have HK := Lib.hid hk
  clear hk
  obtain ⟨x0, x1, x2, x3, x4⟩ := id X
  have H1 := Lib.hid (form_any n _ sg W0 (hG0.below bel))
  by_cases hf : faultN n = 0
  rotate_left
  · obtain ⟨q5, q6⟩ := beqn hf
    have HW := Lib.hid (show widN n ins.length st.length = faultN n from if_neg hf)
    have HL := Lib.hid (show valR n ins st = [] from if_neg (by rw [HW.out]; exact hf))
    clear hf hG0 hA hC
    go_wp2_with (first | (go_at_call 18; refine H1.out.mono ?_; rintro ee w1 ⟨rfl, hb1⟩))
    go_ret2
    exact ⟨_, by rw [HW.out]; rfl, by rw [HL.out]; exact RowOf.nil, bel.trans (hb1.mono bel.size)⟩
  have vn := vn_of hf
  have HW0 := Lib.hid (show widN n ins.length st.length = if (ins.length : Int) = (n.ins.length : Int) ∧ (st.length : Int) = (n.flops.length : Int) then 0 else 20 from if_pos hf)
  rw [hf] at H1
  go_upto_region 4 with (first | (go_at_call 18; refine H1.out.mono ?_; rintro ee W1 ⟨rfl, hb1⟩))
  have bel1 := bel.trans (hb1.mono bel.size)
  have X1 := X.below hb1
  clear x0 x1 x2 x3 x4 X H1 hb1 bel hf hA hC
  obtain ⟨x0, x1, x2, x3, x4⟩ := X1
  by_cases e1 : ins.length = n.ins.length
  rotate_left
  · obtain ⟨q5, q6⟩ := beqn (show ¬ (ins.length : Int) = (n.ins.length : Int) by omega)
    have HW := Lib.hid (HW0.out.trans (if_neg (fun h => e1 (by omega))))
    have HL := Lib.hid (show valR n ins st = [] from if_neg (by rw [HW.out]; decide))
    clear e1
    go_wp2_with fail
    go_ret2
    exact ⟨_, by rw [HW.out]; rfl, by rw [HL.out]; exact RowOf.nil, bel1⟩
  obtain ⟨q5, q6⟩ := beqy (show (ins.length : Int) = (n.ins.length : Int) by omega)
  by_cases e2 : st.length = n.flops.length
  rotate_left
  · obtain ⟨q7, q8⟩ := beqn (show ¬ (st.length : Int) = (n.flops.length : Int) by omega)
    have HW := Lib.hid (HW0.out.trans (if_neg (fun h => e2 (by omega))))
    have HL := Lib.hid (show valR n ins st = [] from if_neg (by rw [HW.out]; decide))
    clear e1 e2
    go_wp2_with fail
    go_ret2
    exact ⟨_, by rw [HW.out]; rfl, by rw [HL.out]; exact RowOf.nil, bel1⟩
  obtain ⟨q7, q8⟩ := beqy (show (st.length : Int) = (n.flops.length : Int) by omega)
  have HW := Lib.hid (HW0.out.trans (if_pos ⟨by omega, by omega⟩))
  have HL := Lib.hid (show valR n ins st = wordsN n ins st from if_pos HW.out)
  have H2 := Lib.hid (nvalues_any n _ ins st _ _ vn sg e1 e2 W1 (hG0.below bel1) (HI.out _ bel1) (HS.out _ bel1))
  clear e1 e2 hG0
  go_wp2_with (first | (go_at_call 87; refine H2.out.mono ?_; rintro ee w2 ⟨u, rfl, O2, hb2⟩))
  go_ret2
  exact ⟨_, by rw [HW.out]; rfl, by rw [HL.out]; exact O2.row lenW1, bel1.trans (hb2.mono bel1.size)⟩
set_option maxRecDepth 100000 in
set_option maxHeartbeats 8000000 in
theorem wordsN_any (n : Nl) (v : Value) (ins st : List (BitVec 64)) (vi vs : Value) (sg : SmN n) (hin : ins.length ≤ 4000000000) (hst : st.length ≤ 4000000000) (w : World) (hG : NO n v w) (h1 : RowC (fun b => Value.int .u64 (U b)) ins vi w) (h2 : RowC (fun b => Value.int .u64 (U b)) st vs w) : Calls Try.prog 30 #[v, vi, vs] w fun e w' => ∃ vo vx, e = .returned (.tuple #[vo, vx, .int .i64 (widN n ins.length st.length)]) ∧ RowOf 1 encW (outR n ins st) vo w' ∧ RowOf 1 encW (nexR n ins st) vx w' ∧ Below w.heap.size w w' := by
  have hG0 := hG
  obtain ⟨a, b, c, d0, e, a', b', c', d', e', rfl, hC, hA⟩ := hG.all
  clear hG
  have HI := Lib.hid (fun W (hb : Below w.heap.size w W) => h1.below hb)
  have HS := Lib.hid (fun W (hb : Below w.heap.size w W) => h2.below hb)
  obtain ⟨ai, ci, rfl, _, _, _⟩ := h1
  obtain ⟨az, cz, rfl, _, _, _⟩ := h2
  go_enter Try.func30, Try.ntmps30
  go_upto_region 1 with fail
  have bel := (Below.refl w.heap.size w).alloc (Nat.le_refl _) (.cells #[.slice a n.ins.length a', .slice b n.outN.length b', .slice c n.flops.length c', .slice d0 n.gates.length d', .slice e n.outs.length e'] 27)
  have X := GX.new w (.slice a n.ins.length a') (.slice b n.outN.length b') (.slice c n.flops.length c') (.slice d0 n.gates.length d') (.slice e n.outs.length e') 27
  generalize w.alloc (.cells #[.slice a n.ins.length a', .slice b n.outN.length b', .slice c n.flops.length c', .slice d0 n.gates.length d', .slice e n.outs.length e'] 27) = W0 at bel X ⊢
  generalize hk : w.heap.size = k at X ⊢
  have HK := Lib.hid hk
  clear hk
  obtain ⟨x0, x1, x2, x3, x4⟩ := id X
  have H1 := Lib.hid (valuesN_any n _ ins st _ _ sg hin hst W0 (hG0.below bel) (HI.out _ bel) (HS.out _ bel))
  by_cases hw : widN n ins.length st.length = 0
  rotate_left
  · obtain ⟨q5, q6⟩ := beqn hw
    have HL := Lib.hid (show outR n ins st = [] from if_neg hw)
    have HL2 := Lib.hid (show nexR n ins st = [] from if_neg hw)
    clear hG0 hA hC
    generalize hwd : widN n ins.length st.length = wd at hw q5 q6 H1
    have HWD := Lib.hid hwd
    clear hwd hw
    go_wp2_with (first | (go_at_call 29; refine H1.out.mono ?_; rintro ee w1 ⟨vv, rfl, _, hb1⟩))
    go_ret3
    exact ⟨_, _, by rw [HWD.out]; rfl, by rw [HL.out]; exact RowOf.nil, by rw [HL2.out]; exact RowOf.nil, bel.trans (hb1.mono bel.size)⟩
  obtain ⟨hf, e1, e2⟩ := widN_zero hw
  have vn := vn_of hf
  have HL := Lib.hid (show outR n ins st = pickL (wordsN n ins st) n.outs from if_pos hw)
  have HL2 := Lib.hid (show nexR n ins st = nextW n (wordsN n ins st) st n.flops.length from if_pos hw)
  have hvr : valR n ins st = wordsN n ins st := if_pos hw
  have HE1 := Lib.hid e1
  have HE2 := Lib.hid e2
  have HWD := Lib.hid hw
  rw [hw, hvr] at H1
  clear e1 e2 hf hvr hw
  go_upto_region 4 with (first | (go_at_call 29; refine H1.out.mono ?_; rintro ee W1 ⟨vv, rfl, R1, hb1⟩))
  have bel1 := bel.trans (hb1.mono bel.size)
  have X1 := X.below hb1
  have H2 := Lib.hid (sampledN_any n _ (wordsN n ins st) st vv (.slice az st.length cz) vn (wordsN_len n ins st HE1.out HE2.out) HE2.out W1 (hG0.below bel1) R1 (RowC.row (HS.out _ bel1)))
  clear x0 x1 x2 x3 x4 X H1 hb1 bel hA hC hG0
  obtain ⟨x0, x1, x2, x3, x4⟩ := X1
  go_wp2_with (first | (go_at_call 88; refine H2.out.mono ?_; rintro ee w2 ⟨vo, vx, rfl, R2, R3, hb2⟩))
  go_ret3
  exact ⟨_, _, by rw [HWD.out]; rfl, by rw [HL.out]; exact R2.row, by rw [HL2.out]; exact R3.row, bel1.trans (hb2.mono bel1.size)⟩
set_option maxRecDepth 100000 in
set_option maxHeartbeats 8000000 in
theorem netWidths_any (n : Nl) (v : Value) (a0 b0 : Int) (sg : SmN n) (w : World) (hG : NO n v w) : Calls Try.prog 31 #[v, .int .i64 a0, .int .i64 b0] w fun e w' => e = .returned (.int .i64 (widN n a0 b0)) ∧ Below w.heap.size w w' := by
  have hG0 := hG
  obtain ⟨a, b, c, d0, e, a', b', c', d', e', rfl, hC, hA⟩ := hG.all
  clear hG
  have s1 := sg.ins
  have s3 := sg.flops
  go_enter Try.func31, Try.ntmps31
  go_upto_region 1 with fail
  have bel := (Below.refl w.heap.size w).alloc (Nat.le_refl _) (.cells #[.slice a n.ins.length a', .slice b n.outN.length b', .slice c n.flops.length c', .slice d0 n.gates.length d', .slice e n.outs.length e'] 27)
  have X := GX.new w (.slice a n.ins.length a') (.slice b n.outN.length b') (.slice c n.flops.length c') (.slice d0 n.gates.length d') (.slice e n.outs.length e') 27
  generalize w.alloc (.cells #[.slice a n.ins.length a', .slice b n.outN.length b', .slice c n.flops.length c', .slice d0 n.gates.length d', .slice e n.outs.length e'] 27) = W0 at bel X ⊢
  generalize hk : w.heap.size = k at X ⊢
  have HK := Lib.hid hk
  clear hk
  obtain ⟨x0, x1, x2, x3, x4⟩ := id X
  have H1 := Lib.hid (faultN_any n _ sg W0 (hG0.below bel))
  have HWD : Hid (widN n a0 b0 = if faultN n = 0 then (if a0 = (n.ins.length : Int) ∧ b0 = (n.flops.length : Int) then 0 else 20) else faultN n) := Lib.hid rfl
  clear hG0 hA hC
  by_cases hf : faultN n = 0
  rotate_left
  · obtain ⟨q5, q6⟩ := beqn hf
    have HW := Lib.hid (HWD.out.trans (if_neg hf))
    clear hf
    go_wp2_with (first | (go_at_call 19; refine H1.out.mono ?_; rintro ee w1 ⟨rfl, hb1⟩))
    go_ret
    exact ⟨ret_num HW.out.symm, bel.trans (hb1.mono bel.size)⟩
  have HW0 := Lib.hid (HWD.out.trans (if_pos hf))
  rw [hf] at H1
  go_upto_region 4 with (first | (go_at_call 19; refine H1.out.mono ?_; rintro ee W1 ⟨rfl, hb1⟩))
  have bel1 := bel.trans (hb1.mono bel.size)
  have X1 := X.below hb1
  clear x0 x1 x2 x3 x4 X H1 hb1 bel hf HWD
  obtain ⟨x0, x1, x2, x3, x4⟩ := X1
  by_cases e1 : a0 = (n.ins.length : Int)
  rotate_left
  · obtain ⟨q5, q6⟩ := beqn e1
    have HW := Lib.hid (HW0.out.trans (if_neg (fun h => e1 h.1)))
    clear e1
    go_wp2_with fail
    go_ret
    exact ⟨ret_num HW.out.symm, bel1⟩
  by_cases e2 : b0 = (n.flops.length : Int)
  rotate_left
  · obtain ⟨q5, q6⟩ := beqy e1
    obtain ⟨q7, q8⟩ := beqn e2
    have HW := Lib.hid (HW0.out.trans (if_neg (fun h => e2 h.2)))
    clear e1 e2
    go_wp2_with fail
    go_ret
    exact ⟨ret_num HW.out.symm, bel1⟩
  have HW := Lib.hid (HW0.out.trans (if_pos ⟨e1, e2⟩))
  subst e1 e2
  go_wp2_with fail
  go_ret
  exact ⟨ret_num HW.out.symm, bel1⟩
end Go.Proofs.Ytimojbjamfckmaa
