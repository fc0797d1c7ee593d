/- The program's Depth; the reference's NetHeights, NetEnds and NetHeight. Condition: the sizes of a netlist that came in, which is valid for the reference's. -/
import Derived.Test.YtimojbjamfckmaaNlLv
namespace Go.Proofs.Ytimojbjamfckmaa
open Go Go.RowKit Go.Sort
set_option linter.unusedVariables false
/-- the nets that count, as the reference puts them -/
def endsR (n : Nl) : List Int := n.outs ++ (n.flops.flatMap fun f => [f.d, f.en])
theorem pickL_app {α : Type} [Inhabited α] (L : List α) (A B : List Int) : pickL L (A ++ B) = pickL L A ++ pickL L B := List.map_append
theorem depL_ends (n : Nl) : depL n = maxL (pickL (levL n n.gates.length) (endsR n)) := by
  unfold depL rootsP endsR
  rw [pickL_app, pickL_app, maxL_comm]
theorem endsR_in {n : Nl} (vn : VN n) : ∀ x ∈ endsR n, 0 ≤ x ∧ x < (netsN n : Nat) := fun x hx => rootsP_in vn x (by
  unfold endsR at hx
  unfold rootsP
  rcases List.mem_append.1 hx with h | h
  · exact List.mem_append_right _ h
  · exact List.mem_append_left _ h)
/-- the height of a gate, by its inputs -/
def hgtL (V : List Int) (l : List Int) (x : Int) : Int := l.foldl (fun h k => max h (V[k.toNat]! + 1)) x
theorem hgtL_is (V : List Int) (l : List Int) : ∀ a : Int, hgtL V l (1 + a) = 1 + (pickL V l).foldl max a := by
  unfold hgtL pickL
  induction l with
  | nil => intro a; rfl
  | cons x l ih =>
    intro a
    simp only [List.foldl_cons, List.map_cons]
    rw [show max (1 + a) (V[x.toNat]! + 1) = 1 + max a V[x.toNat]! by omega]
    exact ih _
theorem hgtL_one (V : List Int) (l : List Int) : hgtL V l 1 = 1 + maxL (pickL V l) := hgtL_is V l 0
set_option maxRecDepth 100000 in
set_option maxHeartbeats 8000000 in
theorem depth_anyN (n : Nl) (v : Value) (sg : SmN n) (w : World) (hG : NO n v w) : Calls Try.prog 46 #[v] w fun e w' => e = .returned (.tuple #[.int .i64 (depR n), .int .i64 (faultN n)]) ∧ Below w.heap.size w w' := by
  have hG0 := hG
  obtain ⟨a, b, c, d0, e, a', b', c', d', e', rfl, hC, hA⟩ := hG.all
  clear hG
  go_enter Try.func46, Try.ntmps46
  go_upto_region 1 with fail
  have bel := (Below.refl w.heap.size w).alloc (Nat.le_refl _) (.cells #[.slice a n.ins.length a', .slice b n.outN.length b', .slice c n.flops.length c', .slice d0 n.gates.length d', .slice e n.outs.length e'] 27)
  have X := GX.new w (.slice a n.ins.length a') (.slice b n.outN.length b') (.slice c n.flops.length c') (.slice d0 n.gates.length d') (.slice e n.outs.length e') 27
  generalize w.alloc (.cells #[.slice a n.ins.length a', .slice b n.outN.length b', .slice c n.flops.length c', .slice d0 n.gates.length d', .slice e n.outs.length e'] 27) = W0 at bel X ⊢
  generalize hk : w.heap.size = k at X ⊢
  have HK := Lib.hid hk
  clear hk
  obtain ⟨x0, x1, x2, x3, x4⟩ := id X
  have H1 := Lib.hid (levels_anyN n _ sg W0 (hG0.below bel))
  by_cases hf : faultN n = 0
  rotate_left
  · have q5 : (faultN n == 0) = false := beq_eq_false_iff_ne.2 hf
    have q6 : (faultN n != 0) = true := by simp [bne, q5]
    have HL := Lib.hid (show depR n = 0 from if_neg hf)
    clear hf hG0 hA hC
    go_wp2_with (first | (go_at_call 45; refine H1.out.mono ?_; rintro ee w1 ⟨vl, rfl, R1, hb1⟩))
    go_ret2
    exact ⟨by rw [HL.out]; rfl, bel.trans (hb1.mono bel.size)⟩
  · have vn := vn_of hf
    have HL := Lib.hid (show depR n = depL n from if_pos hf)
    have HL2 : levR n = levL n n.gates.length := if_pos hf
    rw [hf, HL2] at H1
    have HF0 := Lib.hid hf
    clear HL2 hf
    have n1 := vn.ins
    have n3 := vn.flops
    have n4 := vn.gates
    go_upto_region 4 with (first | (go_at_call 45; refine H1.out.mono ?_; rintro ee W1 ⟨vl, rfl, R1, hb1⟩))
    have bel1 := bel.trans (hb1.mono bel.size)
    have X1 := X.below hb1
    have H2 := Lib.hid (roots_anyN n _ sg W1 (hG0.below bel1))
    have HI := Lib.hid (fun x hx => by have h := rootsP_in vn x hx; have hl := levL_len n n.gates.length (Nat.le_refl _); exact (show 0 ≤ x ∧ x < ((levL n n.gates.length).length : Int) by rw [hl]; exact h))
    have hRL : (rootsP n).length ≤ 100000 := by unfold rootsP; rw [List.length_append, flat2_len]; have := vn.same; have := vn.outN; omega
    have HD := Lib.hid (show depL n = maxL (pickL (levL n n.gates.length) (rootsP n)) from rfl)
    clear x0 x1 x2 x3 x4 X H1 hb1 bel hG0 hA hC
    obtain ⟨x0, x1, x2, x3, x4⟩ := X1
    generalize levL n n.gates.length = V at R1 HI HD
    generalize rootsP n = P at H2 HI HD hRL
    go_wp2_with (first | (go_at_call 71; refine H2.out.mono ?_; rintro ee W2 ⟨u, rfl, O2, hb2⟩; have bel2 := bel1.trans (hb2.mono bel1.size); have R2 := R1.below hb2; have HP := Lib.hid (pickedI_any V P _ _ (by omega) HI.out W2 R2 (O2.row lenJ))) | (go_at_call 95; refine HP.out.mono ?_; rintro ee W3 ⟨q1, rfl, A1, hq1, hb3⟩; have HG := Lib.hid (greatest_any (pickL V P) _ (by rw [pickL_len]; omega) W3 (A1.rowN P.length (pickL_len V P)))) | (go_at_call 94; refine HG.out.mono ?_; rintro ee W4 ⟨rfl, hb4⟩))
    go_ret2
    have bel3 := bel2.trans (hb3.mono bel2.size)
    exact ⟨by rw [HF0.out, HL.out, HD.out]; rfl, bel3.trans (hb4.mono bel3.size)⟩
set_option maxRecDepth 100000 in
set_option maxHeartbeats 8000000 in
theorem netHeights_any (n : Nl) (v : Value) (vn : VN n) (w : World) (hG : NO n v w) : Calls Try.prog 48 #[v] w fun e w' => ∃ vl, e = .returned vl ∧ RowOf 1 encI (levL n n.gates.length) vl w' ∧ Below w.heap.size w w' := by
  have hG0 := hG
  obtain ⟨a, b, c, d0, e, a', b', c', d', e', rfl, hC, hA⟩ := hG.all
  clear hG
  have n1 := vn.ins
  have n3 := vn.flops
  have n4 := vn.gates
  have hmk := fun W => mkJ W (fstN n) (fstN n) (Nat.le_refl _) (by unfold fstN; omega)
  rw [show ((fstN n : Nat) : Int) = 2 + (n.ins.length : Int) + (n.flops.length : Int) by unfold fstN; push_cast; rfl] at hmk
  go_enter Try.func48, Try.ntmps48
  go_upto_region 1 with fail
  have bel := (Below.refl w.heap.size w).alloc (Nat.le_refl _) (.cells #[.slice a n.ins.length a', .slice b n.outN.length b', .slice c n.flops.length c', .slice d0 n.gates.length d', .slice e n.outs.length e'] 27)
  have X := GX.new w (.slice a n.ins.length a') (.slice b n.outN.length b') (.slice c n.flops.length c') (.slice d0 n.gates.length d') (.slice e n.outs.length e') 27
  generalize w.alloc (.cells #[.slice a n.ins.length a', .slice b n.outN.length b', .slice c n.flops.length c', .slice d0 n.gates.length d', .slice e n.outs.length e'] 27) = W0 at bel X ⊢
  generalize hk : w.heap.size = k at X ⊢
  have HK := Lib.hid hk
  clear hk
  obtain ⟨x0, x1, x2, x3, x4⟩ := id X
  go_upto_region 3 with fail
  have O1 : OwnK W0.heap.size 3 1 encI (W0.alloc (.cells (madeCells #[.int .i64 0] (fstN n)) 3)) (.slice (some ⟨W0.heap.size, 0, none⟩) (fstN n) (fstN n)) (levL n 0) := own_made (f := fun b : Int => Value.int .i64 b) W0 W0.heap.size (Nat.le_refl _) 3 0 _ _ (Nat.le_refl _) (by unfold fstN maxLen; omega)
  have B1 := (Below.refl W0.heap.size W0).alloc (Nat.le_refl _) (.cells (madeCells #[.int .i64 0] (fstN n)) 3)
  have HX := Lib.hid (fun W (hb : Below W0.heap.size W0 W) => X.below hb)
  have HA := Lib.hid (fun W (hb : Below W0.heap.size W0 W) => hA.below (bel.trans (hb.mono bel.size)))
  have HBEL := Lib.hid bel
  clear x0 x1 x2 x3 x4 X hA hG0 hC bel hmk
  generalize W0.alloc (.cells (madeCells #[.int .i64 0] (fstN n)) 3) = W2 at O1 B1 ⊢
  obtain ⟨x0, x1, x2, x3, x4⟩ := HX.out _ B1
  obtain ⟨i0, ihi, ihz, ihs, ihb⟩ := info0J
  go_upto_block 0 with fail
  clear x0 x1 x2 x3 x4
  go_wp2_with fail
  go_loopw [4, 23] (fun u i wr => ∃ j : Nat, j ≤ n.gates.length ∧ i = .int .i64 (j : Int) ∧ Hid (OwnK W0.heap.size 3 1 encI wr u (levL n j)) ∧ Hid (Below W0.heap.size W0 wr)) (fun _ i _ => n.gates.length - (intOf i).toNat)
  case atStart => exact ⟨0, Nat.zero_le _, rfl, Lib.hid O1, Lib.hid B1⟩
  case round =>
    clear O1 B1
    obtain ⟨j, hj, rfl, hO, hB⟩ := hrel
    rename World => WG
    have hj0 : (0 : Int) ≤ (j : Int) := by omega
    by_cases hlt : j < n.gates.length
    · have hji : (j : Int) < (n.gates.length : Int) := by omega
      have hLN := levL_len n j hj
      have HT := Lib.hid (levL_succ n j hlt)
      have hin := vn.nets j hlt
      have h6 := vn.pins j hlt
      have HBD := Lib.hid (levL_bound n vn j hj)
      have HLN : (levL n j).length ≤ 100000 := by rw [hLN]; unfold fstN; omega
      have hA1 := HA.out _ hB.out
      have hI := hA1.each j hlt
      obtain ⟨bb, oo, hdd, hcell⟩ := hA1.gates.pick (by omega)
      subst hdd
      have c0 := hcell j hlt 0 _ rfl
      have c1 := hcell j hlt 1 _ rfl
      have c2 := hcell j hlt 2 _ rfl
      simp only [Nat.add_zero] at c0
      clear hcell hA1
      generalize n.gates[j]! = y at c0 c1 c2 HT hI hin h6
      obtain ⟨y0, y1, y2, y3, y4⟩ := y
      obtain ⟨hr, hcp, hnl⟩ := hI
      simp only at c0 c1 c2 HT hr hcp hnl hin h6
      have HIN := Lib.hid (show ∀ x ∈ y2, 0 ≤ x ∧ x < ((levL n j).length : Int) from fun x hx => by rw [hLN]; exact hin x hx)
      have HH := Lib.hid (hgtL_one (levL n j) y2)
      clear hin hLN
      generalize hV : levL n j = V at hO HT HIN HBD HLN HH
      have HV := Lib.hid hV
      clear hV
      obtain ⟨ad, cp, hv⟩ := hO.out.slice
      subst hv
      have hB5 := hB.out
      have hO5 := hO.out
      clear hB hO
      go_upto_region 6 with fail
      have bA := (Below.refl WG.heap.size WG).alloc (Nat.le_refl _) (.cells #[.int .i64 y0, .int .u64 (U y1), .slice y3 y2.length y4] 82)
      have z2 : (WG.alloc (.cells #[.int .i64 y0, .int .u64 (U y1), .slice y3 y2.length y4] 82)).cell? ⟨WG.heap.size, 2, none⟩ = some (.slice y3 y2.length y4) := by go_simp

      generalize WG.alloc (.cells #[.int .i64 y0, .int .u64 (U y1), .slice y3 y2.length y4] 82) = WH at z2 bA ⊢
      generalize WG.heap.size = q10 at z2 ⊢
      have hB6 := hB5.trans (bA.mono hB5.size)
      have hO6 := hO5.below bA
      have HR6 := Lib.hid (hr.below bA)
      clear c0 c1 c2 bA hr hB5 hO5
      have HOR := Lib.hid (hO6.row lenJ)
      go_upto_block 2 with fail
      go_wp2_with fail
      go_loopw [7, 30] (fun u i wr => ∃ (q : Nat) (x : Int), q ≤ y2.length ∧ u = .int .i64 x ∧ i = .int .i64 (q : Int) ∧ Hid (hgtL V y2 1 = hgtL V (y2.drop q) x) ∧ Hid (x ≤ 100000) ∧ wr = WH) (fun _ i _ => y2.length - (intOf i).toNat)
      case atStart => exact ⟨0, 1, Nat.zero_le _, rfl, rfl, Lib.hid rfl, Lib.hid (by omega), rfl⟩
      case round =>
        obtain ⟨q, x, hq, rfl, rfl, hE, hxb, rfl⟩ := hrel
        have hq0 : (0 : Int) ≤ (q : Int) := by omega
        by_cases hlq : q < y2.length
        · have hqi : (q : Int) < (y2.length : Int) := by omega
          have hd : y2.drop q = y2[q]! :: y2.drop (q + 1) := by rw [getElem!_pos y2 q hlq]; exact List.drop_eq_getElem_cons hlq
          have hk := HIN.out _ (mem1 y2 hlq)
          have HE := Lib.hid (show hgtL V y2 1 = hgtL V (y2.drop (q + 1)) (max x (V[y2[q]!.toNat]! + 1)) by rw [hE.out, hd]; rfl)
          obtain ⟨b3, o3, hdd, hcell⟩ := HR6.out.pick (by omega)
          subst hdd
          have c0 := hcell q hlq 0 _ rfl
          simp only [Nat.mul_one, Nat.add_zero] at c0
          clear hcell hd hE
          generalize y2[q]! = kk at c0 HE hk
          obtain ⟨hk0, hk1⟩ := hk
          obtain ⟨ad4, cp4, e4, hc4, R4⟩ := HOR.out.open'
          injection e4 with e41 e42 e43
          subst e41
          subst e43
          obtain ⟨b4, o4, hdd, hcell⟩ := R4.pick (by omega)
          subst hdd
          have c1 := hcell kk.toNat (by omega) 0 _ rfl
          simp only [Nat.mul_one, Nat.add_zero] at c1
          clear hcell R4 e42 hc4
          have hb := HBD.out _ (mem1 V (i := kk.toNat) (by omega))
          generalize V[kk.toNat]! = z at c1 HE hb
          obtain ⟨hb0, hb1⟩ := hb
          have HXB := Lib.hid (show max x (z + 1) ≤ 100000 by have := hxb.out; omega)
          go_wp2_with fail
          go_roundw
          case rel => exact ⟨q + 1, max x (z + 1), by omega, by first | rfl | (congr 1; omega), by go_num, HE, HXB, by first | rfl | trivial⟩
          all_goals first | done | (simp [intOf]; done) | (simp [intOf]; omega)
        · have hqi : ¬ (q : Int) < (y2.length : Int) := by omega
          have HR := Lib.hid (show x = 1 + maxL (pickL V y2) by rw [← HH.out, hE.out, List.drop_of_length_le (by omega)]; rfl)
          have hs8 := hB6.size
          have bB := (Below.refl _ wr).alloc (Nat.le_refl _) (.cells #[.int .i64 x] 3)
          have hs9 := Nat.le_trans hs8 bB.size
          have O4 := hO6.below bB
          have hy := newJ wr x
          clear hE HOR
          go_wp2_with (at_builtin; refine wpList_append_one (enc := encI) (k := 1) (fun _ => rfl) (by decide) (fun x u hu => by simp at hu; rcases hu with rfl; rfl) rfl _ _ 25 rfl (W0.heap.size) 3 i0 (.int .i64 0) 8 Try.underlying25 ihi ihz ihs ihb (by decide) _ V rfl O4 wr.heap.size 1 (x) rfl hy (show V.length + 1 ≤ maxLen by unfold maxLen; omega) (show (V.length + 1) * 8 ≤ 140737488355328 by omega) (by first | omega | (simp; omega)) ?_)
          intro v5 w5 O5 hb5 hg5
          have HO5 := Lib.hid O5
          have HB5 := Lib.hid (hB6.trans ((bB.mono hB6.size).trans hb5))
          rw [HR.out, ← HT.out] at HO5
          clear O5 hb5 hg5 O4 hy hB6 bB hO6
          go_wp2_with fail
          go_roundw
          case rel => exact ⟨j + 1, by omega, by go_num, HO5, HB5⟩
          all_goals first | done | (simp [intOf]; done) | (simp [intOf]; omega)
    · have hji : ¬ (j : Int) < (n.gates.length : Int) := by omega
      have hjj : j = n.gates.length := by omega
      have hO2 := hO.out
      rw [hjj] at hO2
      have HO2 := Lib.hid (hO2.row lenJ)
      have HB2 := Lib.hid (HBEL.out.trans (hB.out.mono HBEL.out.size))
      clear hO hB hO2 hjj
      go_wp2_with fail
      go_ret
      exact ⟨_, rfl, HO2.out, HB2.out⟩
set_option maxRecDepth 100000 in
set_option maxHeartbeats 8000000 in
theorem netEnds_any (n : Nl) (v : Value) (sg : SmN n) (w : World) (hG : NO n v w) : Calls Try.prog 96 #[v] w fun e w' => ∃ vl, e = .returned vl ∧ RowOf 1 encI (endsR n) vl w' ∧ Below w.heap.size w w' := by
  have hG0 := hG
  obtain ⟨a, b, c, d0, e, a', b', c', d', e', rfl, hC, hA⟩ := hG.all
  clear hG
  have s3 := sg.flops
  have s5 := sg.outs
  go_enter Try.func96, Try.ntmps96
  go_upto_region 1 with fail
  have bel := (Below.refl w.heap.size w).alloc (Nat.le_refl _) (.cells #[.slice a n.ins.length a', .slice b n.outN.length b', .slice c n.flops.length c', .slice d0 n.gates.length d', .slice e n.outs.length e'] 27)
  have X := GX.new w (.slice a n.ins.length a') (.slice b n.outN.length b') (.slice c n.flops.length c') (.slice d0 n.gates.length d') (.slice e n.outs.length e') 27
  generalize w.alloc (.cells #[.slice a n.ins.length a', .slice b n.outN.length b', .slice c n.flops.length c', .slice d0 n.gates.length d', .slice e n.outs.length e'] 27) = W0 at bel X ⊢
  generalize hk : w.heap.size = k at X ⊢
  have HK := Lib.hid hk
  clear hk
  obtain ⟨x0, x1, x2, x3, x4⟩ := id X
  have hkw := X.lt
  have HX := Lib.hid (fun W (hb : Below W0.heap.size W0 W) => X.below hb)
  have HA := Lib.hid (fun W (hb : Below W0.heap.size W0 W) => hA.below (bel.trans (hb.mono bel.size)))
  have HBEL := Lib.hid bel
  obtain ⟨i0, ihi, ihz, ihs, ihb⟩ := info0J
  go_cut [3] (fun s3 wx => OwnK W0.heap.size 3 1 encI wx s3 n.outs ∧ Below W0.heap.size W0 wx)
  case first =>
    have hown0 := World.ownsRow_made (base := W0.heap.size) (size := 1) (e := 3) W0 #[] 0 (Nat.le_refl _) (by decide) rfl
    have hown1 : Own W0.heap.size 3 (fun s : Int => Value.int .i64 s) _ _ [] := hown0
    have bA := (Below.refl W0.heap.size W0).alloc (Nat.le_refl _) (.cells #[] 3)
    have hI := (HA.out _ bA).outs
    have hcI := hC.outs
    have hnI := hC.outsN
    have hsz := bA.size
    clear hC hA hG0 X sg
    go_wp2_with (at_builtin; refine wpList_append_row2 (f := fun s : Int => Value.int .i64 s) (fun _ => rfl) rfl _ _ 25 rfl (W0.heap.size) 3 i0 (.int .i64 0) 8 Try.underlying25 ihi ihz ihs ihb (by decide) _ [] rfl hown1 _ n.outs _ rfl hnI hcI hI (by unfold maxLen; first | omega | (simp; omega)) (by first | omega | (simp; omega)) (by first | omega | (simp; omega)) ?_)
    intro v5 w5 O5 hb5 hg5
    have O7 : OwnK W0.heap.size 3 1 encI w5 v5 n.outs := by simpa using O5.ownK1
    have B5 := bA.trans hb5
    clear O5 hb5 hg5 hown0 hown1 bA
    go_wp2_with fail
    go_meet
    exact ⟨O7, B5⟩
  case rest =>
  obtain ⟨O1, B1⟩ := hcut
  clear x0 x1 x2 x3 x4 X hA hG0 hC bel sg hkw
  obtain ⟨x0, x1, x2, x3, x4⟩ := HX.out _ B1
  go_upto_block 0 with fail
  clear x0 x1 x2 x3 x4
  go_wp2_with fail
  go_loopw [3, 13] (fun u i wr => ∃ j : Nat, j ≤ n.flops.length ∧ i = .int .i64 (j : Int) ∧ Hid (OwnK W0.heap.size 3 1 encI wr u (n.outs ++ ((n.flops.take j).flatMap fun f => [f.d, f.en]))) ∧ Hid (Below W0.heap.size W0 wr)) (fun _ i _ => n.flops.length - (intOf i).toNat)
  case atStart => exact ⟨0, Nat.zero_le _, rfl, Lib.hid (by simpa using O1), Lib.hid B1⟩
  case round =>
    clear O1 B1
    obtain ⟨j, hj, rfl, hO, hB⟩ := hrel
    rename World => WR
    have hj0 : (0 : Int) ≤ (j : Int) := by omega
    have HLL := Lib.hid (flat2_len (n.flops.take j))
    have HL : (n.outs ++ ((n.flops.take j).flatMap fun f => [f.d, f.en])).length ≤ 9000000 := by rw [List.length_append, HLL.out, List.length_take]; omega
    by_cases hlt : j < n.flops.length
    · have hji : (j : Int) < (n.flops.length : Int) := by omega
      have HT := Lib.hid (show (n.outs ++ ((n.flops.take (j + 1)).flatMap fun f => [f.d, f.en])) = (n.outs ++ ((n.flops.take j).flatMap fun f => [f.d, f.en])) ++ [n.flops[j]!.d, n.flops[j]!.en] by rw [tk1 _ hlt, List.flatMap_append, List.append_assoc]; rfl)
      obtain ⟨bb, oo, hdd, hcell⟩ := (HA.out _ hB.out).flops.pick (by omega)
      subst hdd
      have c0 := hcell j hlt 0 _ rfl
      have c1 := hcell j hlt 1 _ rfl
      have c2 := hcell j hlt 2 _ rfl
      have c3 := hcell j hlt 3 _ rfl
      have c4 := hcell j hlt 4 _ rfl
      simp only [Nat.add_zero] at c0
      clear hcell HLL
      generalize (n.outs ++ ((n.flops.take j).flatMap fun f => [f.d, f.en])) = L at HT HL hO
      generalize n.flops[j]! = r at c0 c1 c2 c3 c4 HT
      obtain ⟨r0, r1, r2, r3, r4⟩ := r
      simp only at c0 c1 c2 c3 c4 HT
      obtain ⟨ad, cp, hv⟩ := hO.out.slice
      subst hv
      go_upto_region 5 with fail
      have bA := (Below.refl WR.heap.size WR).alloc (Nat.le_refl _) (.cells #[.string r0, .int .i64 r1, .int .i64 r2, .int .i64 r3, .bool r4] 84)
      have y2 : (WR.alloc (.cells #[.string r0, .int .i64 r1, .int .i64 r2, .int .i64 r3, .bool r4] 84)).cell? ⟨WR.heap.size, 2, none⟩ = some (.int .i64 r2) := by go_simp
      have y3 : (WR.alloc (.cells #[.string r0, .int .i64 r1, .int .i64 r2, .int .i64 r3, .bool r4] 84)).cell? ⟨WR.heap.size, 3, none⟩ = some (.int .i64 r3) := by go_simp
      have O2 := hO.out.below bA
      have B2 := hB.out.trans (bA.mono hB.out.size)
      have hs2 := B2.size
      clear bA c0 c1 c2 c3 c4
      generalize WR.alloc (.cells #[.string r0, .int .i64 r1, .int .i64 r2, .int .i64 r3, .bool r4] 84) = WS at O2 B2 hs2 y2 y3 ⊢
      generalize WR.heap.size = q10 at y2 y3 ⊢
      have bB := (Below.refl WS.heap.size WS).alloc (Nat.le_refl _) (.cells #[.int .i64 r2, .int .i64 r3] 3)
      have O4 := O2.below bB
      have hy := row2_at r2 r3 WS 3
      have hs4 := (B2.trans (bB.mono B2.size)).size
      go_wp2_with (at_builtin; refine wpList_append_row2 (f := fun b : Int => Value.int .i64 b) (fun _ => rfl) rfl _ _ 25 rfl (W0.heap.size) 3 i0 (.int .i64 0) 8 Try.underlying25 ihi ihz ihs ihb (by decide) _ L rfl O4.ownN (some ⟨WS.heap.size, 0, none⟩) [r2, r3] 2 rfl (fun h => by cases h) (Nat.le_refl _) hy (show L.length + 2 ≤ maxLen by unfold maxLen; omega) (show (L.length + 2) * 8 ≤ 140737488355328 by omega) (by first | omega | (simp; omega)) ?_)
      intro v5 w5 O5 hb5 hg5
      have HO5 := Lib.hid O5.ownKN
      have HB5 := Lib.hid ((B2.trans (bB.mono B2.size)).trans hb5)
      clear O5 hb5 hg5 O4 hy hO hB y2 y3 O2 B2 bB
      go_wp2_with fail
      go_roundw
      case rel => exact ⟨j + 1, by omega, by go_num, (by rw [HT.out]; exact HO5), HB5⟩
      all_goals first | done | (simp [intOf]; done) | (simp [intOf]; omega)
    · have hji : ¬ (j : Int) < (n.flops.length : Int) := by omega
      have hO2 := hO.out
      rw [List.take_of_length_le (by omega)] at hO2
      have HO2 := Lib.hid (show OwnK w.heap.size 3 1 encI _ _ (endsR n) from hO2.mono1 HBEL.out.size)
      have HB2 := Lib.hid (HBEL.out.trans (hB.out.mono HBEL.out.size))
      clear hO hB hO2 HLL
      go_wp2_with fail
      go_ret
      exact ⟨_, rfl, HO2.out.row lenJ, HB2.out⟩
set_option maxRecDepth 100000 in
set_option maxHeartbeats 8000000 in
theorem netHeight_any (n : Nl) (v : Value) (vn : VN n) (sg : SmN n) (w : World) (hG : NO n v w) : Calls Try.prog 49 #[v] w fun e w' => e = .returned (.int .i64 (depL n)) ∧ Below w.heap.size w w' := by
  have hG0 := hG
  obtain ⟨a, b, c, d0, e, a', b', c', d', e', rfl, hC, hA⟩ := hG.all
  clear hG
  have n1 := vn.ins
  have n3 := vn.flops
  have n4 := vn.gates
  go_enter Try.func49, Try.ntmps49
  go_upto_region 1 with fail
  have bel := (Below.refl w.heap.size w).alloc (Nat.le_refl _) (.cells #[.slice a n.ins.length a', .slice b n.outN.length b', .slice c n.flops.length c', .slice d0 n.gates.length d', .slice e n.outs.length e'] 27)
  have X := GX.new w (.slice a n.ins.length a') (.slice b n.outN.length b') (.slice c n.flops.length c') (.slice d0 n.gates.length d') (.slice e n.outs.length e') 27
  generalize w.alloc (.cells #[.slice a n.ins.length a', .slice b n.outN.length b', .slice c n.flops.length c', .slice d0 n.gates.length d', .slice e n.outs.length e'] 27) = W0 at bel X ⊢
  generalize hk : w.heap.size = k at X ⊢
  have HK := Lib.hid hk
  clear hk
  obtain ⟨x0, x1, x2, x3, x4⟩ := id X
  have H1 := Lib.hid (netHeights_any n _ vn W0 (hG0.below bel))
  go_upto_region 2 with (first | (go_at_call 48; refine H1.out.mono ?_; rintro ee W1 ⟨vl, rfl, R1, hb1⟩))
  have bel1 := bel.trans (hb1.mono bel.size)
  have X1 := X.below hb1
  have H2 := Lib.hid (netEnds_any n _ sg W1 (hG0.below bel1))
  have HIN := Lib.hid (show ∀ x ∈ endsR n, 0 ≤ x ∧ x < ((levL n n.gates.length).length : Int) from fun x hx => by rw [levL_len n _ (Nat.le_refl _)]; exact endsR_in vn x hx)
  have hRL : (endsR n).length ≤ 100000 := by unfold endsR; rw [List.length_append, flat2_len]; have := vn.same; have := vn.outN; omega
  have HD := Lib.hid (depL_ends n)
  clear x0 x1 x2 x3 x4 X H1 hb1 bel hG0 hA hC
  obtain ⟨x0, x1, x2, x3, x4⟩ := X1
  generalize levL n n.gates.length = V at R1 HIN HD
  generalize endsR n = P at H2 HIN HD hRL
  obtain ⟨adv, cpv, rfl, hcv, RV⟩ := R1.open'
  have HRV := Lib.hid (fun W (hb : Below W1.heap.size W1 W) => RV.below hb)
  clear RV R1
  go_upto_block 0 with (first | (go_at_call 96; refine H2.out.mono ?_; rintro ee W2 ⟨vp, rfl, R2, hb2⟩; obtain ⟨adp, cpp, rfl, hcpp, RP⟩ := R2.open'))
  have HRV2 := Lib.hid (HRV.out _ hb2)
  have bel2 := Lib.hid (bel1.trans (hb2.mono bel1.size))
  have HRP := Lib.hid RP
  clear x0 x1 x2 x3 x4 H2 RP R2 HRV hb2 bel1
  go_wp2_with fail
  go_loopw [4, 12] (fun u i wr => ∃ (q : Nat) (x : Int), q ≤ P.length ∧ u = .int .i64 x ∧ i = .int .i64 (q : Int) ∧ Hid (maxL (pickL V P) = (pickL V (P.drop q)).foldl max x) ∧ wr = W2) (fun _ i _ => P.length - (intOf i).toNat)
  case atStart => exact ⟨0, 0, Nat.zero_le _, rfl, rfl, Lib.hid rfl, rfl⟩
  case round =>
    obtain ⟨q, x, hq, rfl, rfl, hE, rfl⟩ := hrel
    have hq0 : (0 : Int) ≤ (q : Int) := by omega
    by_cases hlq : q < P.length
    · have hqi : (q : Int) < (P.length : Int) := by omega
      have hd : P.drop q = P[q]! :: P.drop (q + 1) := by rw [getElem!_pos P q hlq]; exact List.drop_eq_getElem_cons hlq
      have hk := HIN.out _ (mem1 P hlq)
      have HE := Lib.hid (show maxL (pickL V P) = (pickL V (P.drop (q + 1))).foldl max (max x V[P[q]!.toNat]!) by rw [hE.out, hd]; rfl)
      obtain ⟨b3, o3, hdd, hcell⟩ := HRP.out.pick (by omega)
      subst hdd
      have c0 := hcell q hlq 0 _ rfl
      simp only [Nat.mul_one, Nat.add_zero] at c0
      clear hcell hd hE
      generalize P[q]! = kk at c0 HE hk
      obtain ⟨hk0, hk1⟩ := hk
      obtain ⟨b4, o4, hdd, hcell⟩ := HRV2.out.pick (by omega)
      subst hdd
      have c1 := hcell kk.toNat (by omega) 0 _ rfl
      simp only [Nat.mul_one, Nat.add_zero] at c1
      clear hcell
      generalize V[kk.toNat]! = z at c1 HE
      go_wp2_with fail
      go_roundw
      case rel => exact ⟨q + 1, max x z, by omega, by first | rfl | (congr 1; omega), by go_num, HE, by first | rfl | trivial⟩
      all_goals first | done | (simp [intOf]; done) | (simp [intOf]; omega)
    · have hqi : ¬ (q : Int) < (P.length : Int) := by omega
      have HR := Lib.hid (show depL n = x by rw [HD.out, hE.out, List.drop_of_length_le (by omega)]; rfl)
      clear hE
      go_wp2_with fail
      go_ret
      exact ⟨ret_num HR.out.symm, bel2.out⟩
end Go.Proofs.Ytimojbjamfckmaa
