/- The error of a netlist with cells: the reference's walk. Condition: the sizes of a netlist that came in, at most 1,048,576 cells. -/
import Derived.Test.YtimojbjamfckmaaNlCe
import Derived.Laws.ResultCell
namespace Go.Proofs.Ytimojbjamfckmaa
open Go Go.RowKit Go.Sort
set_option linter.unusedVariables false
abbrev aggCe (c : Ce) : Value := .agg #[.string c.nm, .bool c.flop, .int .i64 c.ins, .int .u64 (U c.tab), .int .i64 c.area, .slice c.a1 c.n1 c.k1, .slice c.a2 c.n2 c.k2, .slice c.a3 c.n3 c.k3, .int .i64 c.drive, .int .i64 c.setup, .int .i64 c.hold]
def zeroCe : Ce := ⟨⟨#[]⟩, false, 0, 0#64, 0, none, 0, 0, none, 0, 0, none, 0, 0, 0, 0, 0⟩
def pickCe (i : Int) (fl : Bool) (l : List Ce) : Ce := if cellE i fl l = 0 then l[i.toNat]! else zeroCe
set_option maxRecDepth 100000 in
set_option maxHeartbeats 8000000 in
theorem pickCe_any (i : Int) (fl : Bool) (l : List Ce) (al : Option Addr) (cl : Nat) (hn : l.length ≤ 1048576) (q : Nat) (w : World) (hb : w.cell? ⟨q, 0, none⟩ = some (.slice al l.length cl)) (R : RowAt 11 encCe l al w) : Calls Try.prog 86 #[.int .i64 i, .bool fl, .pointer (some ⟨q, 0, none⟩)] w fun e w' => e = .returned (.tuple #[aggCe (pickCe i fl l), .int .i64 (cellE i fl l)]) ∧ Below w.heap.size w w' := by
  go_enter Try.func86, Try.ntmps86
  have hq := World.block_lt_of_cell? _ _ hb
  by_cases h1 : i < 0
  · have HF := Lib.hid (show cellE i fl l = 7 from if_pos (.inl h1))
    have HP := Lib.hid (show pickCe i fl l = zeroCe from if_neg (by rw [HF.out]; decide))
    go_wp2_with fail
    refine bodyPost_ret (v := .tuple #[aggCe zeroCe, .int .i64 7]) (by rw [results_cell_tmp rfl]; go_simp; first | done | rfl | (simp [zeroCe, U]; done)) rfl ?_
    exact ⟨by rw [HF.out, HP.out], (Below.refl _ w).alloc (Nat.le_refl _) _⟩
  by_cases h2 : (l.length : Int) ≤ i
  · have HF := Lib.hid (show cellE i fl l = 7 from if_pos (.inr h2))
    have HP := Lib.hid (show pickCe i fl l = zeroCe from if_neg (by rw [HF.out]; decide))
    go_wp2_with fail
    refine bodyPost_ret (v := .tuple #[aggCe zeroCe, .int .i64 7]) (by rw [results_cell_tmp rfl]; go_simp; first | done | rfl | (simp [zeroCe, U]; done)) rfl ?_
    exact ⟨by rw [HF.out, HP.out], (Below.refl _ w).alloc (Nat.le_refl _) _⟩
  have HF := Lib.hid (show cellE i fl l = if l[i.toNat]!.flop ≠ fl then 8 else 0 from if_neg (by omega))
  have h3 : 0 ≤ i := by omega
  have h4 : i < (l.length : Int) := by omega
  have HP := Lib.hid (show cellE i fl l = 0 → pickCe i fl l = l[i.toNat]! from fun h => if_pos h)
  have HP8 := Lib.hid (show cellE i fl l = 8 → pickCe i fl l = zeroCe from fun h => if_neg (by rw [h]; decide))
  obtain ⟨bb, oo, hdd, hcell⟩ := R.pick (by omega)
  subst hdd
  have a0 := hcell i.toNat (by omega) 0 _ rfl
  have a1 := hcell i.toNat (by omega) 1 _ rfl
  have a2 := hcell i.toNat (by omega) 2 _ rfl
  have a3 := hcell i.toNat (by omega) 3 _ rfl
  have a4 := hcell i.toNat (by omega) 4 _ rfl
  have a5 := hcell i.toNat (by omega) 5 _ rfl
  have a6 := hcell i.toNat (by omega) 6 _ rfl
  have a7 := hcell i.toNat (by omega) 7 _ rfl
  have a8 := hcell i.toNat (by omega) 8 _ rfl
  have a9 := hcell i.toNat (by omega) 9 _ rfl
  have a10 := hcell i.toNat (by omega) 10 _ rfl
  have hlb := World.block_lt_of_cell? _ _ a1
  simp only [Nat.add_zero] at a0
  clear hcell R h1 h2
  generalize l[i.toNat]! = c at a0 a1 a2 a3 a4 a5 a6 a7 a8 a9 a10 HF HP
  obtain ⟨c0, c1, c2, c3, c4, c5, c6, c7, c8, c9, c10, c11, c12, c13, c14, c15, c16⟩ := c
  simp only at a0 a1 a2 a3 a4 a5 a6 a7 a8 a9 a10 HF
  have h1 : ¬ i < 0 := by omega
  have h2 : ¬ (l.length : Int) ≤ i := by omega
  by_cases hc : c1 = fl
  · subst hc
    have HF2 := Lib.hid (HF.out.trans (if_neg (fun h => h rfl)))
    have HP2 := Lib.hid (HP.out HF2.out)
    clear HF HP HP8
    cases c1
    all_goals
      go_wp2_with fail
      refine bodyPost_ret (v := .tuple #[aggCe ⟨c0, _, c2, c3, c4, c5, c6, c7, c8, c9, c10, c11, c12, c13, c14, c15, c16⟩, .int .i64 0]) (by rw [results_cell_tmp rfl]; go_simp; first | done | rfl | (simp [zeroCe, U]; done)) rfl ?_
      exact ⟨by rw [HF2.out, HP2.out], (Below.refl _ w).alloc (Nat.le_refl _) _⟩
  · have HF2 := Lib.hid (HF.out.trans (if_pos hc))
    have HP2 := Lib.hid (HP8.out HF2.out)
    clear HF HP HP8
    cases c1 <;> cases fl <;> first | exact absurd rfl hc | skip
    all_goals
      clear hc
      go_wp2_with fail
      refine bodyPost_ret (v := .tuple #[aggCe zeroCe, .int .i64 8]) (by rw [results_cell_tmp rfl]; go_simp; first | done | rfl | (simp [zeroCe, U]; done)) rfl ?_
      exact ⟨by rw [HF2.out, HP2.out], (Below.refl _ w).alloc (Nat.le_refl _) _⟩
set_option maxRecDepth 100000 in
set_option maxHeartbeats 16000000 in
theorem netFault_any (n : Nl) (v : Value) (sg : SmN n) (l : List Ce) (vl : Value) (hl : l.length ≤ 1048576) (w : World) (hG : NO n v w) (hL : RowOf 11 encCe l vl w) : Calls Try.prog 26 #[v, vl] w fun e w' => e = .returned (.int .i64 (checkN n l)) ∧ Below w.heap.size w w' := by
  have hG0 := hG
  obtain ⟨a, b, c, d0, e, a', b', c', d', e', rfl, hC, hA⟩ := hG.all
  clear hG
  have s3 := sg.flops
  have s4 := sg.gates
  obtain ⟨al, cl, rfl, hcl, RL⟩ := hL.open'
  go_enter Try.func26, Try.ntmps26
  go_upto_region 1 with fail
  have X := (GX.new w (.slice a n.ins.length a') (.slice b n.outN.length b') (.slice c n.flops.length c') (.slice d0 n.gates.length d') (.slice e n.outs.length e') 27).below ((Below.refl _ _).alloc (Nat.le_refl _) (.cells #[.slice al l.length cl] 37))
  have Q0 : ((w.alloc (.cells #[.slice a n.ins.length a', .slice b n.outN.length b', .slice c n.flops.length c', .slice d0 n.gates.length d', .slice e n.outs.length e'] 27)).alloc (.cells #[.slice al l.length cl] 37)).cell? ⟨w.heap.size + 1, 0, none⟩ = some (.slice al l.length cl) := by go_simp
  have bel := ((Below.refl w.heap.size w).alloc (Nat.le_refl _) (.cells #[.slice a n.ins.length a', .slice b n.outN.length b', .slice c n.flops.length c', .slice d0 n.gates.length d', .slice e n.outs.length e'] 27)).alloc (by simp) (.cells #[.slice al l.length cl] 37)
  generalize (w.alloc (.cells #[.slice a n.ins.length a', .slice b n.outN.length b', .slice c n.flops.length c', .slice d0 n.gates.length d', .slice e n.outs.length e'] 27)).alloc (.cells #[.slice al l.length cl] 37) = W0 at X Q0 bel ⊢
  generalize w.heap.size + 1 = q3 at Q0 ⊢
  generalize hk : w.heap.size = k at X ⊢
  have HK := Lib.hid hk
  clear hk
  obtain ⟨x0, x1, x2, x3, x4⟩ := id X
  have H1 := Lib.hid (faultN_any n _ sg W0 (hG0.below bel))
  have HX := Lib.hid (fun W (hb : Below W0.heap.size W0 W) => X.below hb)
  have HQ := Lib.hid (fun W (hb : Below W0.heap.size W0 W) => (hb.cell (p := ⟨q3, 0, none⟩) (World.block_lt_of_cell? _ _ Q0)).trans Q0)
  have HA := Lib.hid (fun W (hb : Below w.heap.size w W) => hA.below hb)
  have HRL := Lib.hid (fun W (hb : Below w.heap.size w W) => RL.below hb)
  have HSG := Lib.hid sg
  by_cases hf : faultN n = 0
  rotate_left
  · have HF := Lib.hid (show checkN n l = faultN n from if_pos hf)
    have q5 : (faultN n == 0) = false := beq_eq_false_iff_ne.2 hf
    have q6 : (faultN n != 0) = true := by simp [bne, q5]
    clear hf hG0 hA hC
    go_wp2_with (first | (go_at_call 19; refine H1.out.mono ?_; rintro ee w1 ⟨rfl, hb1⟩))
    go_ret
    exact ⟨ret_num HF.out.symm, bel.trans (hb1.mono bel.size)⟩
  have HN := Lib.hid (show checkN n l = if firstE (gateE l) n.gates ≠ 0 then firstE (gateE l) n.gates else firstE (flopE l) n.flops from if_neg (fun h => h hf))
  rw [hf] at H1
  go_upto_region 4 with (first | (go_at_call 19; refine H1.out.mono ?_; rintro ee W1 ⟨rfl, hb1⟩))
  clear x0 x1 x2 x3 x4 X Q0 hA hG0 hC H1 hL RL sg hf
  have HBEL := Lib.hid bel
  clear bel
  obtain ⟨x0, x1, x2, x3, x4⟩ := HX.out _ hb1
  go_upto_block 0 with fail
  clear x0 x1 x2 x3 x4
  go_wp2_with fail
  go_loopw [24] (fun i wr => ∃ j : Nat, j ≤ n.gates.length ∧ i = .int .i64 (j : Int) ∧ Hid (firstE (gateE l) n.gates = firstE (gateE l) (n.gates.drop j)) ∧ Hid (Below W0.heap.size W0 wr)) (fun i _ => n.gates.length - (intOf i).toNat)
  case atStart => exact ⟨0, Nat.zero_le _, rfl, Lib.hid rfl, Lib.hid hb1⟩
  case round =>
    clear hb1
    obtain ⟨j, hj, rfl, hE, hB⟩ := hrel
    rename World => WG
    have hj0 : (0 : Int) ≤ (j : Int) := by omega
    have hBw := HBEL.out.trans (hB.out.mono HBEL.out.size)
    by_cases hlt : j < n.gates.length
    · have hji : (j : Int) < (n.gates.length : Int) := by omega
      have HD := Lib.hid (hE.out.trans (firstE_drop (gateE l) hlt))
      have hg6 := HSG.out.gateI j hlt
      obtain ⟨bb, oo, hdd, hcell⟩ := (HA.out _ hBw).gates.pick (by omega)
      subst hdd
      have c0 := hcell j hlt 0 _ rfl
      have c1 := hcell j hlt 1 _ rfl
      have c2 := hcell j hlt 2 _ rfl
      simp only [Nat.add_zero] at c0
      clear hcell
      clear hE
      generalize n.gates[j]! = y at c0 c1 c2 HD hg6
      obtain ⟨y0, y1, y2, y3, y4⟩ := y
      simp only at c0 c1 c2 hg6
      have hB5 := hB.out
      clear hB
      go_upto_region 8 with fail
      have bA := (Below.refl WG.heap.size WG).alloc (Nat.le_refl _) (.cells #[.int .i64 y0, .int .u64 (U y1), .slice y3 y2.length y4] 82)
      have z0 : (WG.alloc (.cells #[.int .i64 y0, .int .u64 (U y1), .slice y3 y2.length y4] 82)).cell? ⟨WG.heap.size, 0, none⟩ = some (.int .i64 y0) := by go_simp
      have z1 : (WG.alloc (.cells #[.int .i64 y0, .int .u64 (U y1), .slice y3 y2.length y4] 82)).cell? ⟨WG.heap.size, 1, none⟩ = some (.int .u64 (U y1)) := by go_simp
      have z2 : (WG.alloc (.cells #[.int .i64 y0, .int .u64 (U y1), .slice y3 y2.length y4] 82)).cell? ⟨WG.heap.size, 2, none⟩ = some (.slice y3 y2.length y4) := by go_simp

      generalize WG.alloc (.cells #[.int .i64 y0, .int .u64 (U y1), .slice y3 y2.length y4] 82) = WH at z0 z1 z2 bA ⊢
      generalize WG.heap.size = q10 at z0 z1 z2 ⊢
      have HB6 := Lib.hid (hB5.trans (bA.mono hB5.size))
      have hBw6 := HBEL.out.trans (HB6.out.mono HBEL.out.size)
      clear c0 c1 c2 bA hB5 hBw
      have HZ : Hid (∀ e, gateE l ⟨y0, y1, y2, y3, y4⟩ = e → e ≠ 0 → checkN n l = e) := Lib.hid (fun e he h0 => by
        have := HD.out
        rw [he, if_pos h0] at this
        rw [HN.out, this, if_pos h0])
      have HZ0 : Hid (gateE l ⟨y0, y1, y2, y3, y4⟩ = 0 → firstE (gateE l) n.gates = firstE (gateE l) (n.gates.drop (j + 1))) := Lib.hid (fun he => by
        have := HD.out
        rwa [he, if_neg (fun h => h rfl)] at this)
      clear HD
      by_cases h1 : y0 = -1
      · have HE2 := Lib.hid (HZ0.out (if_pos h1))
        subst h1
        clear HZ HZ0
        go_wp2_with fail
        go_roundw
        case rel => exact ⟨j + 1, by omega, by go_num, HE2, HB6⟩
        all_goals first | done | (simp [intOf]; done) | (simp [intOf]; omega)
      have q1 : (y0 == -1) = false := beq_eq_false_iff_ne.2 h1
      have HGE := Lib.hid (show gateE l ⟨y0, y1, y2, y3, y4⟩ = if cellE y0 false l ≠ 0 then cellE y0 false l else if l[y0.toNat]!.ins ≠ (y2.length : Int) ∨ l[y0.toNat]!.tab ≠ y1 then 4 else 0 from if_neg h1)
      have HP := Lib.hid (pickCe_any y0 false l al cl hl q3 WH (HQ.out _ HB6.out) (HRL.out _ hBw6))
      have HPC := Lib.hid (show cellE y0 false l = 0 → pickCe y0 false l = l[y0.toNat]! from fun h => if_pos h)
      generalize pickCe y0 false l = c at HP HPC
      obtain ⟨c0, c1, c2, c3, c4, c5, c6, c7, c8, c9, c10, c11, c12, c13, c14, c15, c16⟩ := c
      by_cases h2 : cellE y0 false l = 0
      rotate_left
      · have HF2 := Lib.hid (HZ.out _ (HGE.out.trans (if_pos h2)) h2)
        generalize cellE y0 false l = e at h2 HP HF2
        have q2 : (e == 0) = false := beq_eq_false_iff_ne.2 h2
        have q3' : (e != 0) = true := by simp [bne, q2]
        clear HZ HZ0 HGE HPC h2
        go_wp2_with (first | (go_at_call 86; refine HP.out.mono ?_; rintro ee w3 ⟨rfl, hb3⟩))
        go_ret
        exact ⟨ret_num HF2.out.symm, (hBw6.trans (hb3.mono hBw6.size)).alloc (by have := (hBw6.trans (hb3.mono hBw6.size)).size; omega) _⟩
      have hpc := HPC.out h2
      have HGE2 := Lib.hid (HGE.out.trans (if_neg (fun h => h h2)))
      rw [← hpc] at HGE2
      rw [h2] at HP
      simp only at HGE2
      clear HGE HPC hpc h2
      go_upto_region 10 with (first | (go_at_call 86; refine HP.out.mono ?_; rintro ee W3 ⟨rfl, hb3⟩))
      replace z1 := (hb3.cell (p := ⟨q10, 1, none⟩) (World.block_lt_of_cell? _ _ z1)).trans z1
      replace z2 := (hb3.cell (p := ⟨q10, 2, none⟩) (World.block_lt_of_cell? _ _ z2)).trans z2
      have hB7 := HB6.out.trans (hb3.mono HB6.out.size)
      have bB := (Below.refl W3.heap.size W3).alloc (Nat.le_refl _) (.cells #[.string c0, .bool c1, .int .i64 c2, .int .u64 (U c3), .int .i64 c4, .slice c5 c6 c7, .slice c8 c9 c10, .slice c11 c12 c13, .int .i64 c14, .int .i64 c15, .int .i64 c16] 86)
      have u2 : (W3.alloc (.cells #[.string c0, .bool c1, .int .i64 c2, .int .u64 (U c3), .int .i64 c4, .slice c5 c6 c7, .slice c8 c9 c10, .slice c11 c12 c13, .int .i64 c14, .int .i64 c15, .int .i64 c16] 86)).cell? ⟨W3.heap.size, 2, none⟩ = some (.int .i64 c2) := by go_simp
      have u3 : (W3.alloc (.cells #[.string c0, .bool c1, .int .i64 c2, .int .u64 (U c3), .int .i64 c4, .slice c5 c6 c7, .slice c8 c9 c10, .slice c11 c12 c13, .int .i64 c14, .int .i64 c15, .int .i64 c16] 86)).cell? ⟨W3.heap.size, 3, none⟩ = some (.int .u64 (U c3)) := by go_simp
      replace z1 := (bB.cell (p := ⟨q10, 1, none⟩) (World.block_lt_of_cell? _ _ z1)).trans z1
      replace z2 := (bB.cell (p := ⟨q10, 2, none⟩) (World.block_lt_of_cell? _ _ z2)).trans z2
      have HB8 := Lib.hid (hB7.trans (bB.mono hB7.size))
      clear bB hb3 hB7 z0 HP
      generalize W3.alloc (.cells #[.string c0, .bool c1, .int .i64 c2, .int .u64 (U c3), .int .i64 c4, .slice c5 c6 c7, .slice c8 c9 c10, .slice c11 c12 c13, .int .i64 c14, .int .i64 c15, .int .i64 c16] 86) = W4 at u2 u3 z1 z2 HB8 ⊢
      generalize W3.heap.size = q11 at u2 u3 ⊢
      have HBw8 := Lib.hid (HBEL.out.trans (HB8.out.mono HBEL.out.size))
      by_cases g1 : c2 = (y2.length : Int)
      rotate_left
      · have HF2 := Lib.hid (HZ.out 4 (HGE2.out.trans (if_pos (.inl g1))) (by decide))
        have q2 : (c2 == (y2.length : Int)) = false := beq_eq_false_iff_ne.2 g1
        have q3' : (c2 != (y2.length : Int)) = true := by simp [bne, q2]
        clear HGE2 g1 HZ HZ0
        go_wp2_with fail
        go_ret
        exact ⟨ret_num HF2.out.symm, HBw8.out⟩
      have q2 : (c2 == (y2.length : Int)) = true := beq_iff_eq.2 g1
      have q3' : (c2 != (y2.length : Int)) = false := by simp [bne, q2]
      by_cases g2 : c3 = y1
      rotate_left
      · have HF2 := Lib.hid (HZ.out 4 (HGE2.out.trans (if_pos (.inr g2))) (by decide))
        have q4 : (c3 == y1) = false := beq_eq_false_iff_ne.2 g2
        have q5 : (c3 != y1) = true := by simp [bne, q4]
        clear HGE2 g1 g2 HZ HZ0
        go_wp2_with fail
        go_ret
        exact ⟨ret_num HF2.out.symm, HBw8.out⟩
      have HE2 := Lib.hid (HZ0.out (HGE2.out.trans (if_neg (fun h => h.elim (fun h => h g1) (fun h => h g2)))))
      have q4 : (c3 == y1) = true := beq_iff_eq.2 g2
      have q5 : (c3 != y1) = false := by simp [bne, q4]
      clear HGE2 g1 g2 HZ HZ0
      go_wp2_with fail
      go_roundw
      case rel => exact ⟨j + 1, by omega, by go_num, HE2, HB8⟩
      all_goals first | done | (simp [intOf]; done) | (simp [intOf]; omega)
    · have hji : ¬ (j : Int) < (n.gates.length : Int) := by omega
      have HN2 := Lib.hid (show checkN n l = firstE (flopE l) n.flops by rw [HN.out, hE.out, List.drop_of_length_le (by omega)]; rfl)
      have hB5 := hB.out
      clear hB hE hBw
      obtain ⟨x0, x1, x2, x3, x4⟩ := HX.out _ hB5
      go_upto_block 2 with fail
      clear x0 x1 x2 x3 x4
      go_wp2_with fail
      go_loopw [62] (fun i wr => ∃ j : Nat, j ≤ n.flops.length ∧ i = .int .i64 (j : Int) ∧ Hid (firstE (flopE l) n.flops = firstE (flopE l) (n.flops.drop j)) ∧ Hid (Below W0.heap.size W0 wr)) (fun i _ => n.flops.length - (intOf i).toNat)
      case atStart => exact ⟨0, Nat.zero_le _, rfl, Lib.hid rfl, Lib.hid hB5⟩
      case round =>
        clear hB5 hlt hji
        obtain ⟨j, hj, rfl, hE, hB⟩ := hrel
        rename World => WF
        have hj0 : (0 : Int) ≤ (j : Int) := by omega
        have hBw := HBEL.out.trans (hB.out.mono HBEL.out.size)
        by_cases hlt : j < n.flops.length
        · have hji : (j : Int) < (n.flops.length : Int) := by omega
          have HD := Lib.hid (hE.out.trans (firstE_drop (flopE l) hlt))
          obtain ⟨bb, oo, hdd, hcell⟩ := (HA.out _ hBw).flops.pick (by omega)
          subst hdd
          have c0 := hcell j hlt 0 _ rfl
          have c1 := hcell j hlt 1 _ rfl
          have c2 := hcell j hlt 2 _ rfl
          have c3 := hcell j hlt 3 _ rfl
          have c4 := hcell j hlt 4 _ rfl
          simp only [Nat.add_zero] at c0
          clear hcell
          clear hE
          generalize n.flops[j]! = r at c0 c1 c2 c3 c4 HD
          obtain ⟨r0, r1, r2, r3, r4⟩ := r
          simp only at c0 c1 c2 c3 c4
          have hB5 := hB.out
          clear hB
          go_upto_region 18 with fail
          have bA := (Below.refl WF.heap.size WF).alloc (Nat.le_refl _) (.cells #[.string r0, .int .i64 r1, .int .i64 r2, .int .i64 r3, .bool r4] 84)
          have z0 : (WF.alloc (.cells #[.string r0, .int .i64 r1, .int .i64 r2, .int .i64 r3, .bool r4] 84)).cell? ⟨WF.heap.size, 0, none⟩ = some (.string r0) := by go_simp
          have z1 : (WF.alloc (.cells #[.string r0, .int .i64 r1, .int .i64 r2, .int .i64 r3, .bool r4] 84)).cell? ⟨WF.heap.size, 1, none⟩ = some (.int .i64 r1) := by go_simp
          have z2 : (WF.alloc (.cells #[.string r0, .int .i64 r1, .int .i64 r2, .int .i64 r3, .bool r4] 84)).cell? ⟨WF.heap.size, 2, none⟩ = some (.int .i64 r2) := by go_simp
          have z3 : (WF.alloc (.cells #[.string r0, .int .i64 r1, .int .i64 r2, .int .i64 r3, .bool r4] 84)).cell? ⟨WF.heap.size, 3, none⟩ = some (.int .i64 r3) := by go_simp
          have z4 : (WF.alloc (.cells #[.string r0, .int .i64 r1, .int .i64 r2, .int .i64 r3, .bool r4] 84)).cell? ⟨WF.heap.size, 4, none⟩ = some (.bool r4) := by go_simp

          generalize WF.alloc (.cells #[.string r0, .int .i64 r1, .int .i64 r2, .int .i64 r3, .bool r4] 84) = WS at z0 z1 z2 z3 z4 bA ⊢
          generalize WF.heap.size = q10 at z0 z1 z2 z3 z4 ⊢
          have HB6 := Lib.hid (hB5.trans (bA.mono hB5.size))
          have hBw6 := HBEL.out.trans (HB6.out.mono HBEL.out.size)
          clear c0 c1 c2 c3 c4 bA hB5 hBw
          have HZ : Hid (∀ e, flopE l ⟨r0, r1, r2, r3, r4⟩ = e → e ≠ 0 → checkN n l = e) := Lib.hid (fun e he h0 => by
            have := HD.out
            rw [he, if_pos h0] at this
            rw [HN2.out, this])
          have HZ0 : Hid (flopE l ⟨r0, r1, r2, r3, r4⟩ = 0 → firstE (flopE l) n.flops = firstE (flopE l) (n.flops.drop (j + 1))) := Lib.hid (fun he => by
            have := HD.out
            rwa [he, if_neg (fun h => h rfl)] at this)
          clear HD
          by_cases h1 : r1 = -1
          · have HE2 := Lib.hid (HZ0.out (if_pos h1))
            subst h1
            clear HZ HZ0
            go_wp2_with fail
            go_roundw
            case rel => exact ⟨j + 1, by omega, by go_num, HE2, HB6⟩
            all_goals first | done | (simp [intOf]; done) | (simp [intOf]; omega)
          have q1 : (r1 == -1) = false := beq_eq_false_iff_ne.2 h1
          have HGE := Lib.hid (show flopE l ⟨r0, r1, r2, r3, r4⟩ = if cellE r1 true l ≠ 0 then cellE r1 true l else if l[r1.toNat]!.ins = 1 ∧ r3 ≠ 1 then 4 else 0 from if_neg h1)
          have HP := Lib.hid (pickCe_any r1 true l al cl hl q3 WS (HQ.out _ HB6.out) (HRL.out _ hBw6))
          have HPC := Lib.hid (show cellE r1 true l = 0 → pickCe r1 true l = l[r1.toNat]! from fun h => if_pos h)
          generalize pickCe r1 true l = c at HP HPC
          obtain ⟨c0, c1, c2, c3, c4, c5, c6, c7, c8, c9, c10, c11, c12, c13, c14, c15, c16⟩ := c
          by_cases h2 : cellE r1 true l = 0
          rotate_left
          · have HF2 := Lib.hid (HZ.out _ (HGE.out.trans (if_pos h2)) h2)
            generalize cellE r1 true l = e at h2 HP HF2
            have q2 : (e == 0) = false := beq_eq_false_iff_ne.2 h2
            have q3' : (e != 0) = true := by simp [bne, q2]
            clear HZ HZ0 HGE HPC h2
            go_wp2_with (first | (go_at_call 86; refine HP.out.mono ?_; rintro ee w3 ⟨rfl, hb3⟩))
            go_ret
            exact ⟨ret_num HF2.out.symm, (hBw6.trans (hb3.mono hBw6.size)).alloc (by have := (hBw6.trans (hb3.mono hBw6.size)).size; omega) _⟩
          have hpc := HPC.out h2
          have HGE2 := Lib.hid (HGE.out.trans (if_neg (fun h => h h2)))
          rw [← hpc] at HGE2
          rw [h2] at HP
          simp only at HGE2
          clear HGE HPC hpc h2
          go_upto_region 20 with (first | (go_at_call 86; refine HP.out.mono ?_; rintro ee W3 ⟨rfl, hb3⟩))
          replace z3 := (hb3.cell (p := ⟨q10, 3, none⟩) (World.block_lt_of_cell? _ _ z3)).trans z3
          have hB7 := HB6.out.trans (hb3.mono HB6.out.size)
          have bB := (Below.refl W3.heap.size W3).alloc (Nat.le_refl _) (.cells #[.string c0, .bool c1, .int .i64 c2, .int .u64 (U c3), .int .i64 c4, .slice c5 c6 c7, .slice c8 c9 c10, .slice c11 c12 c13, .int .i64 c14, .int .i64 c15, .int .i64 c16] 86)
          have u2 : (W3.alloc (.cells #[.string c0, .bool c1, .int .i64 c2, .int .u64 (U c3), .int .i64 c4, .slice c5 c6 c7, .slice c8 c9 c10, .slice c11 c12 c13, .int .i64 c14, .int .i64 c15, .int .i64 c16] 86)).cell? ⟨W3.heap.size, 2, none⟩ = some (.int .i64 c2) := by go_simp
          replace z3 := (bB.cell (p := ⟨q10, 3, none⟩) (World.block_lt_of_cell? _ _ z3)).trans z3
          have HB8 := Lib.hid (hB7.trans (bB.mono hB7.size))
          clear bB hb3 hB7 z0 z1 z2 z4 HP
          generalize W3.alloc (.cells #[.string c0, .bool c1, .int .i64 c2, .int .u64 (U c3), .int .i64 c4, .slice c5 c6 c7, .slice c8 c9 c10, .slice c11 c12 c13, .int .i64 c14, .int .i64 c15, .int .i64 c16] 86) = W4 at u2 z3 HB8 ⊢
          generalize W3.heap.size = q11 at u2 ⊢
          have HBw8 := Lib.hid (HBEL.out.trans (HB8.out.mono HBEL.out.size))
          by_cases g1 : c2 = 1
          rotate_left
          · have HE2 := Lib.hid (HZ0.out (HGE2.out.trans (if_neg (fun h => g1 h.1))))
            have q2 : (c2 == 1) = false := beq_eq_false_iff_ne.2 g1
            clear HGE2 g1 HZ HZ0
            go_wp2_with fail
            go_roundw
            case rel => exact ⟨j + 1, by omega, by go_num, HE2, HB8⟩
            all_goals first | done | (simp [intOf]; done) | (simp [intOf]; omega)
          subst g1
          by_cases g2 : r3 = 1
          · have HE2 := Lib.hid (HZ0.out (HGE2.out.trans (if_neg (fun h => h.2 g2))))
            subst g2
            clear HGE2 HZ HZ0
            go_wp2_with fail
            go_roundw
            case rel => exact ⟨j + 1, by omega, by go_num, HE2, HB8⟩
            all_goals first | done | (simp [intOf]; done) | (simp [intOf]; omega)
          have HF2 := Lib.hid (HZ.out 4 (HGE2.out.trans (if_pos ⟨rfl, g2⟩)) (by decide))
          have q4 : (r3 == 1) = false := beq_eq_false_iff_ne.2 g2
          have q5 : (r3 != 1) = true := by simp [bne, q4]
          clear HGE2 g2 HZ HZ0
          go_wp2_with fail
          go_ret
          exact ⟨ret_num HF2.out.symm, HBw8.out⟩
        · have hji : ¬ (j : Int) < (n.flops.length : Int) := by omega
          have HF := Lib.hid (show checkN n l = 0 by rw [HN2.out, hE.out, List.drop_of_length_le (by omega)]; rfl)
          go_wp2_with fail
          go_ret
          exact ⟨ret_num HF.out.symm, hBw⟩
end Go.Proofs.Ytimojbjamfckmaa
