/- The program's Area, and the law on it. Asked: the fact. -/
import Derived.Test.YtimojbjamfckmaaNlCl
namespace Go.Proofs.Ytimojbjamfckmaa
open Go Go.RowKit Go.Sort
set_option linter.unusedVariables false
theorem newJ (W : World) (x : Int) : ∀ (q : Nat) (u : Value), (encI x)[q]? = some u → (W.alloc (.cells #[.int .i64 x] 3)).cell? ⟨W.heap.size, q, none⟩ = some u := by
  intro q u hq
  match q, hq with
  | 0, hq => cases hq; go_simp
def usedL (n : Nl) : List Int := n.gates.map (·.cell) ++ n.flops.map (·.cell)
def badA (a : Int) : Bool := decide (a < 0) || decide (64 < a)
/-- the sum of the areas, and the error -/
def areaP (l : List Ce) : List Int → Int → Int × Int
  | [], acc => (acc, 0)
  | c :: cs, acc => if c = -1 then (0, 8) else if badA l[c.toNat]!.area = true then (0, 2) else areaP l cs (acc + l[c.toNat]!.area)
def areaR (n : Nl) (l : List Ce) : Int × Int := if checkN n l ≠ 0 then (0, checkN n l) else areaP l (usedL n) 0
theorem areaP_drop (l : List Ce) {cs : List Int} {j : Nat} (hj : j < cs.length) (acc : Int) : areaP l (cs.drop j) acc = if cs[j]! = -1 then (0, 8) else if badA l[cs[j]!.toNat]!.area = true then (0, 2) else areaP l (cs.drop (j + 1)) (acc + l[cs[j]!.toNat]!.area) := by
  have e : cs.drop j = cs[j]! :: cs.drop (j + 1) := by rw [getElem!_pos cs j hj]; exact List.drop_eq_getElem_cons hj
  rw [e]; rfl
theorem cellE_in {i : Int} {fl : Bool} {l : List Ce} (h : cellE i fl l = 0) : 0 ≤ i ∧ i < (l.length : Int) := by
  unfold cellE at h
  split at h
  · omega
  · omega
theorem firstE_all {α : Type} {f : α → Int} : ∀ {l : List α}, firstE f l = 0 → ∀ x ∈ l, f x = 0
  | [], _, x, hx => by cases hx
  | y :: l, h, x, hx => by
    unfold firstE at h
    split at h
    · rename_i h1; exact absurd h h1
    · rename_i h1
      rcases List.mem_cons.1 hx with rfl | hx
      · exact Classical.not_not.1 h1
      · exact firstE_all h x hx
theorem used_in {n : Nl} {l : List Ce} (h : checkN n l = 0) : ∀ c ∈ usedL n, c = -1 ∨ (0 ≤ c ∧ c < (l.length : Int)) := by
  unfold checkN at h
  split at h
  · rename_i h1; exact absurd h h1
  split at h
  · rename_i h1; exact absurd h h1
  rename_i h1 h2
  have hg := firstE_all (Classical.not_not.1 h2)
  have hf := firstE_all h
  intro c hc
  unfold usedL at hc
  rcases List.mem_append.1 hc with hc | hc
  · obtain ⟨g, hg1, rfl⟩ := List.mem_map.1 hc
    have := hg g hg1
    unfold gateE at this
    by_cases q : g.cell = -1
    · exact .inl q
    · rw [if_neg q] at this
      split at this
      · rename_i q2; exact absurd this q2
      · rename_i q2; exact .inr (cellE_in (Classical.not_not.1 q2))
  · obtain ⟨g, hg1, rfl⟩ := List.mem_map.1 hc
    have := hf g hg1
    unfold flopE at this
    by_cases q : g.cell = -1
    · exact .inl q
    · rw [if_neg q] at this
      split at this
      · rename_i q2; exact absurd this q2
      · rename_i q2; exact .inr (cellE_in (Classical.not_not.1 q2))
set_option maxRecDepth 100000 in
set_option maxHeartbeats 8000000 in
theorem used_any (n : Nl) (v : Value) (sg : SmN n) (w : World) (hG : NO n v w) : Calls Try.prog 97 #[v] w fun e w' => ∃ u, e = .returned u ∧ RowOf 1 encI (usedL n) u w' ∧ Below w.heap.size w w' := by
  have hG0 := hG
  obtain ⟨a, b, c, d0, e, a', b', c', d', e', rfl, hC, hA⟩ := hG.all
  clear hG
  have s3 := sg.flops
  have s4 := sg.gates
  go_enter Try.func97, Try.ntmps97
  go_upto_region 2 with fail
  have bel := (Below.refl w.heap.size w).alloc (Nat.le_refl _) (.cells #[.slice a n.ins.length a', .slice b n.outN.length b', .slice c n.flops.length c', .slice d0 n.gates.length d', .slice e n.outs.length e'] 27)
  have X := GX.new w (.slice a n.ins.length a') (.slice b n.outN.length b') (.slice c n.flops.length c') (.slice d0 n.gates.length d') (.slice e n.outs.length e') 27
  generalize w.alloc (.cells #[.slice a n.ins.length a', .slice b n.outN.length b', .slice c n.flops.length c', .slice d0 n.gates.length d', .slice e n.outs.length e'] 27) = W0 at bel X ⊢
  generalize hk : w.heap.size = k at X ⊢
  have HK := Lib.hid hk
  clear hk
  obtain ⟨x0, x1, x2, x3, x4⟩ := id X
  have HX := Lib.hid (fun W (hb : Below W0.heap.size W0 W) => X.below hb)
  have HA := Lib.hid (fun W (hb : Below W0.heap.size W0 W) => hA.below (bel.trans (hb.mono bel.size)))
  obtain ⟨i0, ihi, ihz, ihs, ihb⟩ := infoNJ_parts
  have O1 : OwnK W0.heap.size 3 1 encI W0 (.slice none 0 0) ([] : List Int) := OwnK.nil _ _ _ _ _
  have B1 := Below.refl W0.heap.size W0
  have HBEL := Lib.hid bel
  clear X hA hG0 hC bel
  go_upto_block 0 with fail
  clear x0 x1 x2 x3 x4
  go_wp2_with fail
  go_loopw [3, 11] (fun u i wr => ∃ j : Nat, j ≤ n.gates.length ∧ i = .int .i64 (j : Int) ∧ Hid (OwnK W0.heap.size 3 1 encI wr u ((n.gates.take j).map (·.cell))) ∧ Hid (Below W0.heap.size W0 wr)) (fun _ i _ => n.gates.length - (intOf i).toNat)
  case atStart => exact ⟨0, Nat.zero_le _, rfl, Lib.hid O1, Lib.hid B1⟩
  case round =>
    clear O1 B1
    obtain ⟨j, hj, rfl, hO, hB⟩ := hrel
    rename World => WG
    have hj0 : (0 : Int) ≤ (j : Int) := by omega
    by_cases hlt : j < n.gates.length
    · have hji : (j : Int) < (n.gates.length : Int) := by omega
      have HT := Lib.hid (show (n.gates.take (j + 1)).map (·.cell) = (n.gates.take j).map (·.cell) ++ [n.gates[j]!.cell] by rw [tk1 _ hlt, List.map_append]; rfl)
      have HL : ((n.gates.take j).map (·.cell)).length ≤ 9000000 := by rw [List.length_map, List.length_take]; omega
      obtain ⟨bb, oo, hdd, hcell⟩ := (HA.out _ hB.out).gates.pick (by omega)
      subst hdd
      have c0 := hcell j hlt 0 _ rfl
      have c1 := hcell j hlt 1 _ rfl
      have c2 := hcell j hlt 2 _ rfl
      simp only [Nat.add_zero] at c0
      clear hcell
      generalize (n.gates.take j).map (·.cell) = L at HT HL hO
      generalize n.gates[j]! = y at c0 c1 c2 HT
      obtain ⟨y0, y1, y2, y3, y4⟩ := y
      simp only at c0 c1 c2 HT
      obtain ⟨ad, cp, hv⟩ := hO.out.slice
      subst hv
      have hB5 := hB.out
      have hO5 := hO.out
      clear hB hO
      go_upto_region 5 with fail
      have bA := (Below.refl WG.heap.size WG).alloc (Nat.le_refl _) (.cells #[.int .i64 y0, .int .u64 (U y1), .slice y3 y2.length y4] 82)
      have z0 : (WG.alloc (.cells #[.int .i64 y0, .int .u64 (U y1), .slice y3 y2.length y4] 82)).cell? ⟨WG.heap.size, 0, none⟩ = some (.int .i64 y0) := by go_simp

      generalize WG.alloc (.cells #[.int .i64 y0, .int .u64 (U y1), .slice y3 y2.length y4] 82) = WH at z0 bA ⊢
      generalize WG.heap.size = q10 at z0 ⊢
      have hB6 := hB5.trans (bA.mono hB5.size)
      have hO6 := hO5.below bA
      clear c0 c1 c2 bA hB5 hO5
      have bB := (Below.refl _ WH).alloc (Nat.le_refl _) (.cells #[.int .i64 y0] 3)
      have hs8 := hB6.size
      have hs9 := Nat.le_trans hs8 bB.size
      have O4 := hO6.below bB
      have hy := newJ WH y0
      go_wp2_with (at_builtin; refine wpList_append_one (enc := encI) (k := 1) (fun _ => rfl) (by decide) (fun x u hu => by simp at hu; rcases hu with rfl; rfl) rfl _ _ 25 rfl (W0.heap.size) 3 i0 (.int .i64 0) 8 Try.underlying25 ihi ihz ihs ihb (by decide) _ L rfl O4 WH.heap.size 1 (y0) rfl hy (show L.length + 1 ≤ maxLen by unfold maxLen; omega) (show (L.length + 1) * 8 ≤ 140737488355328 by omega) (by first | omega | (simp; omega)) ?_)
      intro v5 w5 O5 hb5 hg5
      have HO5 := Lib.hid O5
      have HB5 := Lib.hid (hB6.trans ((bB.mono hB6.size).trans hb5))
      clear O5 hb5 hg5 O4 hy hB6 bB hO6 z0
      go_wp2_with fail
      go_roundw
      case rel => exact ⟨j + 1, by omega, by go_num, (by rw [HT.out]; exact HO5), HB5⟩
      all_goals first | done | (simp [intOf]; done) | (simp [intOf]; omega)
    · have hji : ¬ (j : Int) < (n.gates.length : Int) := by omega
      have O1 := hO.out
      rw [List.take_of_length_le (by omega)] at O1
      have B1 := hB.out
      clear hO hB
      obtain ⟨x0, x1, x2, x3, x4⟩ := HX.out _ B1
      go_upto_block 2 with fail
      clear x0 x1 x2 x3 x4
      go_wp2_with fail
      go_loopw [3, 24] (fun u i wr => ∃ j : Nat, j ≤ n.flops.length ∧ i = .int .i64 (j : Int) ∧ Hid (OwnK W0.heap.size 3 1 encI wr u (n.gates.map (·.cell) ++ (n.flops.take j).map (·.cell))) ∧ Hid (Below W0.heap.size W0 wr)) (fun _ i _ => n.flops.length - (intOf i).toNat)
      case atStart => exact ⟨0, Nat.zero_le _, rfl, Lib.hid (by simpa using O1), Lib.hid B1⟩
      case round =>
        clear O1 B1 hlt hji
        obtain ⟨j, hj, rfl, hO, hB⟩ := hrel
        rename World => WF
        have hj0 : (0 : Int) ≤ (j : Int) := by omega
        by_cases hlt : j < n.flops.length
        · have hji : (j : Int) < (n.flops.length : Int) := by omega
          have HT := Lib.hid (show n.gates.map (·.cell) ++ (n.flops.take (j + 1)).map (·.cell) = (n.gates.map (·.cell) ++ (n.flops.take j).map (·.cell)) ++ [n.flops[j]!.cell] by rw [tk1 _ hlt, List.map_append, List.append_assoc]; rfl)
          have HL : (n.gates.map (·.cell) ++ (n.flops.take j).map (·.cell)).length ≤ 9000000 := by rw [List.length_append, List.length_map, List.length_map, List.length_take]; omega
          obtain ⟨bb, oo, hdd, hcell⟩ := (HA.out _ hB.out).flops.pick (by omega)
          subst hdd
          have c0 := hcell j hlt 0 _ rfl
          have c1 := hcell j hlt 1 _ rfl
          have c2 := hcell j hlt 2 _ rfl
          have c3 := hcell j hlt 3 _ rfl
          have c4 := hcell j hlt 4 _ rfl
          simp only [Nat.add_zero] at c0
          clear hcell
          generalize n.gates.map (·.cell) ++ (n.flops.take j).map (·.cell) = L at HT HL hO
          generalize n.flops[j]! = r at c0 c1 c2 c3 c4 HT
          obtain ⟨r0, r1, r2, r3, r4⟩ := r
          simp only at c0 c1 c2 c3 c4 HT
          obtain ⟨ad, cp, hv⟩ := hO.out.slice
          subst hv
          have hB5 := hB.out
          have hO5 := hO.out
          clear hB hO
          go_upto_region 10 with fail
          have bA := (Below.refl WF.heap.size WF).alloc (Nat.le_refl _) (.cells #[.string r0, .int .i64 r1, .int .i64 r2, .int .i64 r3, .bool r4] 84)
          have z1 : (WF.alloc (.cells #[.string r0, .int .i64 r1, .int .i64 r2, .int .i64 r3, .bool r4] 84)).cell? ⟨WF.heap.size, 1, none⟩ = some (.int .i64 r1) := by go_simp

          generalize WF.alloc (.cells #[.string r0, .int .i64 r1, .int .i64 r2, .int .i64 r3, .bool r4] 84) = WS at z1 bA ⊢
          generalize WF.heap.size = q10 at z1 ⊢
          have hB6 := hB5.trans (bA.mono hB5.size)
          have hO6 := hO5.below bA
          clear c0 c1 c2 c3 c4 bA hB5 hO5
          have bB := (Below.refl _ WS).alloc (Nat.le_refl _) (.cells #[.int .i64 r1] 3)
          have hs8 := hB6.size
          have hs9 := Nat.le_trans hs8 bB.size
          have O4 := hO6.below bB
          have hy := newJ WS r1
          go_wp2_with (at_builtin; refine wpList_append_one (enc := encI) (k := 1) (fun _ => rfl) (by decide) (fun x u hu => by simp at hu; rcases hu with rfl; rfl) rfl _ _ 25 rfl (W0.heap.size) 3 i0 (.int .i64 0) 8 Try.underlying25 ihi ihz ihs ihb (by decide) _ L rfl O4 WS.heap.size 1 (r1) rfl hy (show L.length + 1 ≤ maxLen by unfold maxLen; omega) (show (L.length + 1) * 8 ≤ 140737488355328 by omega) (by first | omega | (simp; omega)) ?_)
          intro v5 w5 O5 hb5 hg5
          have HO5 := Lib.hid O5
          have HB5 := Lib.hid (hB6.trans ((bB.mono hB6.size).trans hb5))
          clear O5 hb5 hg5 O4 hy hB6 bB hO6 z1
          go_wp2_with fail
          go_roundw
          case rel => exact ⟨j + 1, by omega, by go_num, (by rw [HT.out]; exact HO5), HB5⟩
          all_goals first | done | (simp [intOf]; done) | (simp [intOf]; omega)
        · have hji : ¬ (j : Int) < (n.flops.length : Int) := by omega
          have hO2 := hO.out
          rw [List.take_of_length_le (by omega), show n.gates.map (·.cell) ++ n.flops.map (·.cell) = usedL n from rfl] at hO2
          have hB2 := hB.out
          clear hO hB
          have HO2 := Lib.hid (hO2.row lenJ)
          have HB2 := Lib.hid (HBEL.out.trans (hB2.mono HBEL.out.size))
          clear hO2 hB2
          go_wp2_with fail
          go_ret
          exact ⟨_, rfl, HO2.out, HB2.out⟩
set_option maxRecDepth 100000 in
set_option maxHeartbeats 8000000 in
theorem area_any (n : Nl) (v : Value) (sg : SmN n) (l : List Ce) (vl : Value) (hl : l.length ≤ 1048576) (w : World) (hG : NO n v w) (hL : RowOf 11 encCe l vl w) : Calls Try.prog 50 #[v, vl] w fun e w' => e = .returned (.tuple #[.int .i64 (areaR n l).1, .int .i64 (areaR n l).2]) ∧ Below w.heap.size w w' := by
  have hG0 := hG
  obtain ⟨a, b, c, d0, e, a', b', c', d', e', rfl, hC, hA⟩ := hG.all
  clear hG
  have s3 := sg.flops
  have s4 := sg.gates
  obtain ⟨al, cl, rfl, hcl, RL⟩ := hL.open'
  go_enter Try.func50, Try.ntmps50
  go_upto_region 1 with fail
  have bel := (Below.refl w.heap.size w).alloc (Nat.le_refl _) (.cells #[.slice a n.ins.length a', .slice b n.outN.length b', .slice c n.flops.length c', .slice d0 n.gates.length d', .slice e n.outs.length e'] 27)
  have X := GX.new w (.slice a n.ins.length a') (.slice b n.outN.length b') (.slice c n.flops.length c') (.slice d0 n.gates.length d') (.slice e n.outs.length e') 27
  generalize w.alloc (.cells #[.slice a n.ins.length a', .slice b n.outN.length b', .slice c n.flops.length c', .slice d0 n.gates.length d', .slice e n.outs.length e'] 27) = W0 at bel X ⊢
  generalize hk : w.heap.size = k at X ⊢
  have HK := Lib.hid hk
  clear hk
  obtain ⟨x0, x1, x2, x3, x4⟩ := id X
  have H1 := Lib.hid (check_anyN n _ sg l _ hl W0 (hG0.below bel) (hL.below bel))
  by_cases hf : checkN n l = 0
  rotate_left
  · have HF := Lib.hid (show areaR n l = (0, checkN n l) from if_pos hf)
    have q5 : (checkN n l == 0) = false := beq_eq_false_iff_ne.2 hf
    have q6 : (checkN n l != 0) = true := by simp [bne, q5]
    clear hf hG0 hA hC
    go_wp2_with (first | (go_at_call 25; refine H1.out.mono ?_; rintro ee w1 ⟨rfl, hb1⟩))
    go_ret2
    exact ⟨by rw [HF.out]; rfl, bel.trans (hb1.mono bel.size)⟩
  have HN := Lib.hid (show areaR n l = areaP l (usedL n) 0 from if_neg (fun h => h hf))
  have HIN := Lib.hid (used_in hf)
  rw [hf] at H1
  go_upto_region 4 with (first | (go_at_call 25; refine H1.out.mono ?_; rintro ee W1 ⟨rfl, hb1⟩))
  have bel1 := bel.trans (hb1.mono bel.size)
  have X1 := X.below hb1
  have H2 := Lib.hid (used_any n _ sg W1 (hG0.below bel1))
  have HUL : (usedL n).length ≤ 3000000 := by unfold usedL; rw [List.length_append, List.length_map, List.length_map]; omega
  have HRL := Lib.hid (fun W (hb : Below w.heap.size w W) => RL.below hb)
  clear x0 x1 x2 x3 x4 X H1 hb1 bel hG0 hA hC hL RL hf
  obtain ⟨x0, x1, x2, x3, x4⟩ := X1
  generalize usedL n = P at H2 HN HIN HUL
  go_upto_block 0 with (first | (go_at_call 97; refine H2.out.mono ?_; rintro ee W2 ⟨vp, rfl, R2, hb2⟩; obtain ⟨adp, cpp, rfl, hcpp, RP⟩ := R2.open'))
  have bel2 := Lib.hid (bel1.trans (hb2.mono bel1.size))
  have HRP := Lib.hid RP
  have HRL2 := Lib.hid (HRL.out _ bel2.out)
  clear x0 x1 x2 x3 x4 H2 RP R2 hb2 bel1 HRL
  go_wp2_with fail
  go_loopw [7, 20] (fun u i wr => ∃ (q : Nat) (x : Int), q ≤ P.length ∧ u = .int .i64 x ∧ i = .int .i64 (q : Int) ∧ Hid (areaR n l = areaP l (P.drop q) x) ∧ Hid (0 ≤ x ∧ x ≤ 64 * q) ∧ wr = W2) (fun _ i _ => P.length - (intOf i).toNat)
  case atStart => exact ⟨0, 0, Nat.zero_le _, rfl, rfl, HN, Lib.hid (by omega), rfl⟩
  case round =>
    obtain ⟨q, x, hq, rfl, rfl, hE, hX, rfl⟩ := hrel
    have hq0 : (0 : Int) ≤ (q : Int) := by omega
    by_cases hlq : q < P.length
    · have hqi : (q : Int) < (P.length : Int) := by omega
      have HE := Lib.hid (hE.out.trans (areaP_drop l hlq x))
      have hk := HIN.out _ (mem1 P hlq)
      obtain ⟨b3, o3, hdd, hcell⟩ := HRP.out.pick (by omega)
      subst hdd
      have c0 := hcell q hlq 0 _ rfl
      simp only [Nat.mul_one, Nat.add_zero] at c0
      clear hcell hE
      generalize P[q]! = c at c0 HE hk
      by_cases hc1 : c = -1
      · have HF := Lib.hid (HE.out.trans (if_pos hc1))
        subst hc1
        go_wp2_with fail
        go_ret2
        exact ⟨by rw [HF.out]; rfl, bel2.out⟩
      have q1 : (c == -1) = false := beq_eq_false_iff_ne.2 hc1
      obtain ⟨hk0, hk1⟩ := hk.resolve_left hc1
      have HE2 := Lib.hid (HE.out.trans (if_neg hc1))
      obtain ⟨b4, o4, hdd, hcell⟩ := HRL2.out.pick (by omega)
      subst hdd
      have a4 := hcell c.toNat (by omega) 4 _ rfl
      clear hcell HE hk
      generalize l[c.toNat]!.area = a at a4 HE2
      obtain ⟨hX0, hX1⟩ := hX.out
      by_cases hb1 : a < 0
      · have HF := Lib.hid (HE2.out.trans (if_pos (by unfold badA; rw [decide_eq_true hb1]; rfl)))
        go_wp2_with fail
        go_ret2
        exact ⟨by rw [HF.out]; rfl, bel2.out⟩
      by_cases hb2 : 64 < a
      · have HF := Lib.hid (HE2.out.trans (if_pos (by unfold badA; rw [decide_eq_true hb2, Bool.or_true])))
        go_wp2_with fail
        go_ret2
        exact ⟨by rw [HF.out]; rfl, bel2.out⟩
      have HE3 := Lib.hid (HE2.out.trans (if_neg (by unfold badA; rw [decide_eq_false hb1, decide_eq_false hb2]; decide)))
      have HX2 := Lib.hid (show 0 ≤ x + a ∧ x + a ≤ 64 * ((q + 1 : Nat) : Int) by omega)
      clear HE2
      go_wp2_with fail
      go_roundw
      case rel => exact ⟨q + 1, x + a, by omega, rfl, by go_num, HE3, HX2, by first | rfl | trivial⟩
      all_goals first | done | (simp [intOf]; done) | (simp [intOf]; omega)
    · have hqi : ¬ (q : Int) < (P.length : Int) := by omega
      have HF := Lib.hid (show areaR n l = (x, 0) by rw [hE.out, List.drop_of_length_le (by omega)]; rfl)
      go_wp2_with fail
      go_ret2
      exact ⟨by rw [HF.out]; rfl, bel2.out⟩
set_option maxRecDepth 100000 in
set_option maxHeartbeats 16000000 in
theorem nareas_law (hF : NfC) (n : Nl) (v : Value) (sg : SmN n) (l : List Ce) (vl : Value) (hl : l.length ≤ 1048576) (w : World) (hG : NO n v w) (hL : RowOf 11 encCe l vl w) : Calls Try.prog 10 #[v, vl] w fun e w' => e = .returned (.bool true) ∧ Below w.heap.size w w' := by
  have hG0 := hG
  obtain ⟨a, b, c, d0, e, a', b', c', d', e', rfl, hC, hA⟩ := hG.all
  clear hG
  have s3 := sg.flops
  have s4 := sg.gates
  have HFF := Lib.hid (fun W => hF W)
  clear hF
  obtain ⟨al, cl, rfl, hcl, RL⟩ := hL.open'
  go_enter Try.func10, Try.ntmps10
  go_upto_region 1 with fail
  have bel := (Below.refl w.heap.size w).alloc (Nat.le_refl _) (.cells #[.slice a n.ins.length a', .slice b n.outN.length b', .slice c n.flops.length c', .slice d0 n.gates.length d', .slice e n.outs.length e'] 27)
  have X := GX.new w (.slice a n.ins.length a') (.slice b n.outN.length b') (.slice c n.flops.length c') (.slice d0 n.gates.length d') (.slice e n.outs.length e') 27
  generalize w.alloc (.cells #[.slice a n.ins.length a', .slice b n.outN.length b', .slice c n.flops.length c', .slice d0 n.gates.length d', .slice e n.outs.length e'] 27) = Wa at bel X ⊢
  generalize hk : w.heap.size = k at X ⊢
  have HK := Lib.hid hk
  clear hk
  obtain ⟨x0, x1, x2, x3, x4⟩ := id X
  have H1 := Lib.hid (area_any n _ sg l _ hl Wa (hG0.below bel) (hL.below bel))
  go_upto_region 2 with (first | (go_at_call 50; refine H1.out.mono ?_; rintro ee Wb ⟨rfl, hb1⟩))
  have bel1 := bel.trans (hb1.mono bel.size)
  have X1 := X.below hb1
  have H2 := Lib.hid (netFault_any n _ sg l _ hl Wb (hG0.below bel1) (hL.below bel1))
  clear x0 x1 x2 x3 x4 X H1 hb1 bel
  obtain ⟨x0, x1, x2, x3, x4⟩ := id X1
  go_upto_region 4 with (first | (go_at_call 26; refine H2.out.mono ?_; rintro ee W0 ⟨rfl, hb2⟩))
  have bel2 := bel1.trans (hb2.mono bel1.size)
  have X2 := X1.below hb2
  have HX := Lib.hid (fun W (hb : Below W0.heap.size W0 W) => X2.below hb)
  have HA := Lib.hid (fun W (hb : Below W0.heap.size W0 W) => hA.below (bel2.trans (hb.mono bel2.size)))
  have HRL := Lib.hid (fun W (hb : Below W0.heap.size W0 W) => RL.below (bel2.trans (hb.mono bel2.size)))
  have HBEL := Lib.hid bel2
  have HAR := Lib.hid (show areaR n l = if checkN n l ≠ 0 then (0, checkN n l) else areaP l (usedL n) 0 from rfl)
  have HIN := Lib.hid (fun h : checkN n l = 0 => used_in h)
  have HUL : (usedL n).length ≤ 3000000 := by unfold usedL; rw [List.length_append, List.length_map, List.length_map]; omega
  obtain ⟨i0, ihi, ihz, ihs, ihb⟩ := infoNJ_parts
  have O1 : OwnK W0.heap.size 3 1 encI W0 (.slice none 0 0) ([] : List Int) := OwnK.nil _ _ _ _ _
  have B1 := Below.refl W0.heap.size W0
  clear x0 x1 x2 x3 x4 X1 H2 hb2 bel1 bel2 hA hG0 hL RL hC
  generalize hck : checkN n l = ck at HAR HIN ⊢
  have HCK := Lib.hid hck
  clear hck
  generalize areaR n l = ar at HAR ⊢
  obtain ⟨x0, x1, x2, x3, x4⟩ := X2
  go_upto_block 0 with fail
  clear x0 x1 x2 x3 x4
  go_wp2_with fail
  go_loopw [9, 28] (fun u i wr => ∃ j : Nat, j ≤ n.gates.length ∧ i = .int .i64 (j : Int) ∧ Hid (OwnK W0.heap.size 3 1 encI wr u ((n.gates.take j).map (·.cell))) ∧ Hid (Below W0.heap.size W0 wr)) (fun _ i _ => n.gates.length - (intOf i).toNat)
  case atStart => exact ⟨0, Nat.zero_le _, rfl, Lib.hid O1, Lib.hid B1⟩
  case round =>
    clear O1 B1
    obtain ⟨j, hj, rfl, hO, hB⟩ := hrel
    rename World => WG
    have hj0 : (0 : Int) ≤ (j : Int) := by omega
    by_cases hlt : j < n.gates.length
    · have hji : (j : Int) < (n.gates.length : Int) := by omega
      have HT := Lib.hid (show (n.gates.take (j + 1)).map (·.cell) = (n.gates.take j).map (·.cell) ++ [n.gates[j]!.cell] by rw [tk1 _ hlt, List.map_append]; rfl)
      have HL : ((n.gates.take j).map (·.cell)).length ≤ 9000000 := by rw [List.length_map, List.length_take]; omega
      obtain ⟨bb, oo, hdd, hcell⟩ := (HA.out _ hB.out).gates.pick (by omega)
      subst hdd
      have c0 := hcell j hlt 0 _ rfl
      have c1 := hcell j hlt 1 _ rfl
      have c2 := hcell j hlt 2 _ rfl
      simp only [Nat.add_zero] at c0
      clear hcell
      generalize (n.gates.take j).map (·.cell) = L at HT HL hO
      generalize n.gates[j]! = y at c0 c1 c2 HT
      obtain ⟨y0, y1, y2, y3, y4⟩ := y
      simp only at c0 c1 c2 HT
      obtain ⟨ad, cp, hv⟩ := hO.out.slice
      subst hv
      have hB5 := hB.out
      have hO5 := hO.out
      clear hB hO
      go_upto_region 7 with fail
      have bA := (Below.refl WG.heap.size WG).alloc (Nat.le_refl _) (.cells #[.int .i64 y0, .int .u64 (U y1), .slice y3 y2.length y4] 82)
      have z0 : (WG.alloc (.cells #[.int .i64 y0, .int .u64 (U y1), .slice y3 y2.length y4] 82)).cell? ⟨WG.heap.size, 0, none⟩ = some (.int .i64 y0) := by go_simp

      generalize WG.alloc (.cells #[.int .i64 y0, .int .u64 (U y1), .slice y3 y2.length y4] 82) = WH at z0 bA ⊢
      generalize WG.heap.size = q10 at z0 ⊢
      have hB6 := hB5.trans (bA.mono hB5.size)
      have hO6 := hO5.below bA
      clear c0 c1 c2 bA hB5 hO5
      have bB := (Below.refl _ WH).alloc (Nat.le_refl _) (.cells #[.int .i64 y0] 3)
      have hs8 := hB6.size
      have hs9 := Nat.le_trans hs8 bB.size
      have O4 := hO6.below bB
      have hy := newJ WH y0
      go_wp2_with (at_builtin; refine wpList_append_one (enc := encI) (k := 1) (fun _ => rfl) (by decide) (fun x u hu => by simp at hu; rcases hu with rfl; rfl) rfl _ _ 25 rfl (W0.heap.size) 3 i0 (.int .i64 0) 8 Try.underlying25 ihi ihz ihs ihb (by decide) _ L rfl O4 WH.heap.size 1 (y0) rfl hy (show L.length + 1 ≤ maxLen by unfold maxLen; omega) (show (L.length + 1) * 8 ≤ 140737488355328 by omega) (by first | omega | (simp; omega)) ?_)
      intro v5 w5 O5 hb5 hg5
      have HO5 := Lib.hid O5
      have HB5 := Lib.hid (hB6.trans ((bB.mono hB6.size).trans hb5))
      clear O5 hb5 hg5 O4 hy hB6 bB hO6 z0
      go_wp2_with fail
      go_roundw
      case rel => exact ⟨j + 1, by omega, by go_num, (by rw [HT.out]; exact HO5), HB5⟩
      all_goals first | done | (simp [intOf]; done) | (simp [intOf]; omega)
    · have hji : ¬ (j : Int) < (n.gates.length : Int) := by omega
      have O1 := hO.out
      rw [List.take_of_length_le (by omega)] at O1
      have B1 := hB.out
      clear hO hB
      obtain ⟨x0, x1, x2, x3, x4⟩ := HX.out _ B1
      go_upto_block 2 with fail
      clear x0 x1 x2 x3 x4
      go_wp2_with fail
      go_loopw [9, 41] (fun u i wr => ∃ j : Nat, j ≤ n.flops.length ∧ i = .int .i64 (j : Int) ∧ Hid (OwnK W0.heap.size 3 1 encI wr u (n.gates.map (·.cell) ++ (n.flops.take j).map (·.cell))) ∧ Hid (Below W0.heap.size W0 wr)) (fun _ i _ => n.flops.length - (intOf i).toNat)
      case atStart => exact ⟨0, Nat.zero_le _, rfl, Lib.hid (by simpa using O1), Lib.hid B1⟩
      case round =>
        clear O1 B1 hlt hji
        obtain ⟨j, hj, rfl, hO, hB⟩ := hrel
        rename World => WF
        have hj0 : (0 : Int) ≤ (j : Int) := by omega
        by_cases hlt : j < n.flops.length
        · have hji : (j : Int) < (n.flops.length : Int) := by omega
          have HT := Lib.hid (show n.gates.map (·.cell) ++ (n.flops.take (j + 1)).map (·.cell) = (n.gates.map (·.cell) ++ (n.flops.take j).map (·.cell)) ++ [n.flops[j]!.cell] by rw [tk1 _ hlt, List.map_append, List.append_assoc]; rfl)
          have HL : (n.gates.map (·.cell) ++ (n.flops.take j).map (·.cell)).length ≤ 9000000 := by rw [List.length_append, List.length_map, List.length_map, List.length_take]; omega
          obtain ⟨bb, oo, hdd, hcell⟩ := (HA.out _ hB.out).flops.pick (by omega)
          subst hdd
          have c0 := hcell j hlt 0 _ rfl
          have c1 := hcell j hlt 1 _ rfl
          have c2 := hcell j hlt 2 _ rfl
          have c3 := hcell j hlt 3 _ rfl
          have c4 := hcell j hlt 4 _ rfl
          simp only [Nat.add_zero] at c0
          clear hcell
          generalize n.gates.map (·.cell) ++ (n.flops.take j).map (·.cell) = L at HT HL hO
          generalize n.flops[j]! = r at c0 c1 c2 c3 c4 HT
          obtain ⟨r0, r1, r2, r3, r4⟩ := r
          simp only at c0 c1 c2 c3 c4 HT
          obtain ⟨ad, cp, hv⟩ := hO.out.slice
          subst hv
          have hB5 := hB.out
          have hO5 := hO.out
          clear hB hO
          go_upto_region 12 with fail
          have bA := (Below.refl WF.heap.size WF).alloc (Nat.le_refl _) (.cells #[.string r0, .int .i64 r1, .int .i64 r2, .int .i64 r3, .bool r4] 84)
          have z1 : (WF.alloc (.cells #[.string r0, .int .i64 r1, .int .i64 r2, .int .i64 r3, .bool r4] 84)).cell? ⟨WF.heap.size, 1, none⟩ = some (.int .i64 r1) := by go_simp

          generalize WF.alloc (.cells #[.string r0, .int .i64 r1, .int .i64 r2, .int .i64 r3, .bool r4] 84) = WS at z1 bA ⊢
          generalize WF.heap.size = q10 at z1 ⊢
          have hB6 := hB5.trans (bA.mono hB5.size)
          have hO6 := hO5.below bA
          clear c0 c1 c2 c3 c4 bA hB5 hO5
          have bB := (Below.refl _ WS).alloc (Nat.le_refl _) (.cells #[.int .i64 r1] 3)
          have hs8 := hB6.size
          have hs9 := Nat.le_trans hs8 bB.size
          have O4 := hO6.below bB
          have hy := newJ WS r1
          go_wp2_with (at_builtin; refine wpList_append_one (enc := encI) (k := 1) (fun _ => rfl) (by decide) (fun x u hu => by simp at hu; rcases hu with rfl; rfl) rfl _ _ 25 rfl (W0.heap.size) 3 i0 (.int .i64 0) 8 Try.underlying25 ihi ihz ihs ihb (by decide) _ L rfl O4 WS.heap.size 1 (r1) rfl hy (show L.length + 1 ≤ maxLen by unfold maxLen; omega) (show (L.length + 1) * 8 ≤ 140737488355328 by omega) (by first | omega | (simp; omega)) ?_)
          intro v5 w5 O5 hb5 hg5
          have HO5 := Lib.hid O5
          have HB5 := Lib.hid (hB6.trans ((bB.mono hB6.size).trans hb5))
          clear O5 hb5 hg5 O4 hy hB6 bB hO6 z1
          go_wp2_with fail
          go_roundw
          case rel => exact ⟨j + 1, by omega, by go_num, (by rw [HT.out]; exact HO5), HB5⟩
          all_goals first | done | (simp [intOf]; done) | (simp [intOf]; omega)
        · have hji : ¬ (j : Int) < (n.flops.length : Int) := by omega
          have hO2 := hO.out
          rw [List.take_of_length_le (by omega), show n.gates.map (·.cell) ++ n.flops.map (·.cell) = usedL n from rfl] at hO2
          have hB2 := hB.out
          clear hO hB
          have HBw := Lib.hid (HBEL.out.trans (hB2.mono HBEL.out.size))
          have R2 := hO2.row lenJ
          have HRL2 := Lib.hid (HRL.out _ hB2)
          obtain ⟨adp, cpp, e1, hcpp, RP⟩ := R2.open'
          subst e1
          have HRP := Lib.hid RP
          clear hO2 hB2 R2 RP HRL HX HA
          generalize usedL n = P at HAR HIN HUL HRP ⊢
          go_upto_block 4 with fail
          go_wp2_with fail
          go_loopw [7, 8, 53] (fun s u i wr => ∃ (q : Nat) (f x : Int), q ≤ P.length ∧ s = .int .i64 f ∧ u = .int .i64 x ∧ i = .int .i64 (q : Int) ∧ Hid (ar = if f = 0 then areaP l (P.drop q) x else (0, f)) ∧ Hid (f = 0 → ck = 0) ∧ Hid (0 ≤ x ∧ x ≤ 64 * q) ∧ wr = WF) (fun _ _ i _ => P.length - (intOf i).toNat)
          case atStart => exact ⟨0, ck, 0, Nat.zero_le _, rfl, rfl, rfl, Lib.hid (by
            rw [HAR.out]
            by_cases h : ck = 0
            · rw [if_pos h, if_neg (fun q => q h)]; rfl
            · rw [if_neg h, if_pos h]), Lib.hid id, Lib.hid (by omega), rfl⟩
          case round =>
            clear hlt hji
            obtain ⟨q, f, x, hq, rfl, rfl, rfl, hE, hCk, hX, rfl⟩ := hrel
            have hq0 : (0 : Int) ≤ (q : Int) := by omega
            by_cases hlq : q < P.length
            · have hqi : (q : Int) < (P.length : Int) := by omega
              obtain ⟨b3, o3, hdd, hcell⟩ := HRP.out.pick (by omega)
              subst hdd
              have c0 := hcell q hlq 0 _ rfl
              simp only [Nat.mul_one, Nat.add_zero] at c0
              clear hcell
              obtain ⟨hX0, hX1⟩ := hX.out
              have HX3 := Lib.hid (show 0 ≤ x ∧ x ≤ 64 * ((q + 1 : Nat) : Int) by omega)
              by_cases hf : f = 0
              rotate_left
              · have q5 : (f == 0) = false := beq_eq_false_iff_ne.2 hf
                have q6 : (f != 0) = true := by simp [bne, q5]
                have HE2 := Lib.hid (show ar = if f = 0 then areaP l (P.drop (q + 1)) x else (0, f) by
                  have := hE.out
                  rw [if_neg hf] at this ⊢
                  exact this)
                clear hf
                go_wp2_with fail
                go_roundw
                case rel => exact ⟨q + 1, f, x, by omega, rfl, rfl, by go_num, HE2, hCk, HX3, by first | rfl | trivial⟩
                all_goals first | done | (simp [intOf]; done) | (simp [intOf]; omega)
              have HE1 := Lib.hid ((hE.out.trans (if_pos hf)).trans (areaP_drop l hlq x))
              have hk := HIN.out (hCk.out hf) _ (mem1 P hlq)
              subst hf
              clear hE
              generalize P[q]! = c at c0 HE1 hk
              by_cases hc1 : c = -1
              · have HE2 := Lib.hid (show ar = if (8 : Int) = 0 then areaP l (P.drop (q + 1)) x else (0, 8) from HE1.out.trans (if_pos hc1))
                subst hc1
                clear HE1
                go_wp2_with fail
                go_roundw
                case rel => exact ⟨q + 1, 8, x, by omega, rfl, rfl, by go_num, HE2, Lib.hid (fun h => by omega), HX3, by first | rfl | trivial⟩
                all_goals first | done | (simp [intOf]; done) | (simp [intOf]; omega)
              have q1 : (c == -1) = false := beq_eq_false_iff_ne.2 hc1
              obtain ⟨hk0, hk1⟩ := hk.resolve_left hc1
              have HE2 := Lib.hid (HE1.out.trans (if_neg hc1))
              obtain ⟨b4, o4, hdd, hcell⟩ := HRL2.out.pick (by omega)
              subst hdd
              have a4 := hcell c.toNat (by omega) 4 _ rfl
              clear hcell HE1 hk
              generalize l[c.toNat]!.area = a at a4 HE2
              by_cases hb1 : a < 0
              · have HE3 := Lib.hid (show ar = if (2 : Int) = 0 then areaP l (P.drop (q + 1)) x else (0, 2) from HE2.out.trans (if_pos (by unfold badA; rw [decide_eq_true hb1]; rfl)))
                clear HE2
                go_wp2_with fail
                go_roundw
                case rel => exact ⟨q + 1, 2, x, by omega, rfl, rfl, by go_num, HE3, Lib.hid (fun h => by omega), HX3, by first | rfl | trivial⟩
                all_goals first | done | (simp [intOf]; done) | (simp [intOf]; omega)
              by_cases hb2 : 64 < a
              · have HE3 := Lib.hid (show ar = if (2 : Int) = 0 then areaP l (P.drop (q + 1)) x else (0, 2) from HE2.out.trans (if_pos (by unfold badA; rw [decide_eq_true hb2, Bool.or_true])))
                clear HE2
                go_wp2_with fail
                go_roundw
                case rel => exact ⟨q + 1, 2, x, by omega, rfl, rfl, by go_num, HE3, Lib.hid (fun h => by omega), HX3, by first | rfl | trivial⟩
                all_goals first | done | (simp [intOf]; done) | (simp [intOf]; omega)
              have HE3 := Lib.hid (show ar = if (0 : Int) = 0 then areaP l (P.drop (q + 1)) (x + a) else (0, 0) from (HE2.out.trans (if_neg (by unfold badA; rw [decide_eq_false hb1, decide_eq_false hb2]; decide))).trans (if_pos rfl).symm)
              have HX2 := Lib.hid (show 0 ≤ x + a ∧ x + a ≤ 64 * ((q + 1 : Nat) : Int) by omega)
              clear HE2
              go_wp2_with fail
              go_roundw
              case rel => exact ⟨q + 1, 0, x + a, by omega, rfl, rfl, by go_num, HE3, hCk, HX2, by first | rfl | trivial⟩
              all_goals first | done | (simp [intOf]; done) | (simp [intOf]; omega)
            · have hqi : ¬ (q : Int) < (P.length : Int) := by omega
              have hfin : ar = if f = 0 then (x, 0) else (0, f) := by
                have := hE.out
                rw [List.drop_of_length_le (by omega)] at this
                exact this
              clear hE
              by_cases hf : f = 0
              · rw [if_pos hf] at hfin
                subst hf hfin
                go_wp2_with (first | (go_at_call 15; refine (HFF.out _).mono ?_; rintro ee w3 ⟨rfl, hb3⟩))
                go_ret
                exact ⟨rfl, HBw.out.trans (hb3.mono HBw.out.size)⟩
              · rw [if_neg hf] at hfin
                subst hfin
                have q5 : (f == 0) = false := beq_eq_false_iff_ne.2 hf
                have q6 : (f != 0) = true := by simp [bne, q5]
                clear hf
                go_wp2_with (first | (go_at_call 15; refine (HFF.out _).mono ?_; rintro ee w3 ⟨rfl, hb3⟩))
                go_ret
                exact ⟨rfl, HBw.out.trans (hb3.mono HBw.out.size)⟩
end Go.Proofs.Ytimojbjamfckmaa
