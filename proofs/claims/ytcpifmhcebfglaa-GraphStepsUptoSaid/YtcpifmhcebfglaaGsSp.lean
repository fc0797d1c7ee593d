/- The law that a run shows its cycles one after the other: its walk. Asked: the fact. -/
import Derived.Test.YtcpifmhcebfglaaGsPd
import Derived.Test.YtcpifmhcebfglaaGpU
namespace Go.Proofs.Ytcpifmhcebfglaa
open Go Go.RowKit Go.Sort
set_option linter.unusedVariables false
/-- the fact of the laws -/
def Fact3 : Prop := ∀ w : World, Calls Try.prog 19 #[] w fun e w' => e = .returned (.bool true) ∧ Below w.heap.size w w'
theorem isWd_size {i : Nat} {x : ByteArray} (h : isWd i x) : x.size ≤ 6 := by
  obtain ⟨r, hr, rfl | ⟨d, hd, rfl⟩ | rfl⟩ := h
  · show (wB r i).size ≤ 6; exact (by decide : (3 : Nat) ≤ 6)
  · rw [ByteArray.size_append]; show 3 + _ ≤ 6; exact (by decide : 3 + 3 ≤ 6)
  · rw [ByteArray.size_append]; show 2 + 3 ≤ 6; decide
theorem allW_size {l : List ByteArray} (h : allW l l.length) : ∀ x ∈ l, x.size ≤ 6 := fun x hx => by
  obtain ⟨j, hj, rfl⟩ := List.getElem_of_mem hx
  have := isWd_size (h j hj)
  rwa [getElem!_pos l j hj] at this
theorem MdG.small {g : Gr} (h : MdG g) : Small g := by
  have h1 := h.ins
  have h2 := h.outN
  have h3 := h.regs
  have h4 := h.ands
  have h5 := h.same
  have hn := allW_size h.nms
  exact ⟨by omega, by omega, by omega, by omega, by omega, fun x hx => by have := hn x (List.mem_append.2 (.inl hx)); omega, fun x hx => by have := allW_size h.outs x hx; omega, fun x hx => by have := hn x.nm (List.mem_append.2 (.inr (List.mem_map.2 ⟨x, hx, rfl⟩))); omega⟩
theorem play_get (g : Gr) : ∀ (L : List (List Bool)) (st : List Bool) (j : Nat), j < L.length → (playL g st L)[j]! = shows g L[j]! (stL g st (L.take j))
  | [], _, j, h => by simp at h
  | x :: L, st, 0, _ => by simp [playL, stL]
  | x :: L, st, j + 1, h => by
    have := play_get g L (nexts g x st) j (by simpa using h)
    simp only [playL, List.getElem!_cons_succ, List.take_succ_cons]
    rw [this]; rfl
theorem stL_take (g : Gr) (L : List (List Bool)) (st : List Bool) {j : Nat} (h : j < L.length) : stL g st (L.take (j + 1)) = nexts g L[j]! (stL g st (L.take j)) := by
  rw [tk1 L h, stL_snoc]
theorem tfR_ok {n : Nat} : ∀ {L : List (List Bool)}, (∀ r ∈ L, r.length = n) → tfR n L = 0
  | [], _ => rfl
  | r :: L, h => by
    unfold tfR
    rw [if_pos (h r (List.mem_cons_self ..))]
    exact tfR_ok fun x hx => h x (List.mem_cons_of_mem _ hx)
theorem run_ok {g : Gr} {L : List (List Bool)} (hf : faultG g = 0) (hl : L.length ≤ 64) (h : ∀ r ∈ L, r.length = g.ins.length) : runE g L = 0 ∧ runR g L = playL g (beginL g) L := by
  have h1 : runE g L = 0 := by unfold runE; rw [if_pos hf]; unfold tfL; rw [if_neg (by omega)]; exact tfR_ok h
  exact ⟨h1, if_pos h1⟩
theorem evals_fit {g : Gr} {ins st : List Bool} (hf : faultG g = 0) (h1 : ins.length = g.ins.length) (h2 : st.length = g.regs.length) : widE g ins.length st.length = 0 ∧ evO g ins st = shows g ins st ∧ evN g ins st = nexts g ins st := by
  have h : widE g ins.length st.length = 0 := by unfold widE; rw [if_pos hf, if_pos ⟨by omega, by omega⟩]
  exact ⟨h, if_pos h, if_pos h⟩
set_option maxRecDepth 100000 in
set_option maxHeartbeats 8000000 in
theorem steps_law (hF : Fact3) (a : Option Addr) (len cap : Nat) (n : Int) (w : World) (hl : Sl a len w) : Calls Try.prog 3 #[.slice a len cap, .int .i64 n] w fun e w' => e = .returned (.bool true) ∧ Below w.heap.size w w' := by
  have HF := Lib.hid hF
  clear hF
  go_enter Try.func3, Try.ntmps3
  go_upto_region 2 with fail
  have S0 := hl.str cap _ rfl
  have bA := (Below.refl w.heap.size w).alloc (Nat.le_refl _) (.cells #[.slice a len cap, .int .i64 0] 25)
  have hs0 : w.heap.size < (w.alloc (.cells #[.slice a len cap, .int .i64 0] 25)).heap.size := by simp
  generalize w.alloc (.cells #[.slice a len cap, .int .i64 0] 25) = W0 at S0 bA hs0 ⊢
  generalize hb : w.heap.size = b at S0 bA hs0 ⊢
  have HB := Lib.hid hb
  have HBA := Lib.hid bA
  clear hb bA hl
  obtain ⟨N, hN, hN2⟩ : ∃ N : Nat, bel n 30 = (N : Int) ∧ N < 30 := by
    have := bel_range n 30 (by omega)
    exact ⟨(bel n 30).toNat, by omega, by omega⟩
  go_upto_region 3 with (first | (go_at_call 15; refine (small_made b len cap a 0 25 (by omega) (by omega) W0 S0).mono ?_; rintro ee W1 ⟨u, rfl, ⟨g, hsm, hgs⟩, A1⟩; obtain ⟨a0, a1, a2, a3, a4, c0, c1, c2, c3, c4, hv, -⟩ := id hgs.all; subst hv))
  obtain ⟨⟨k1, hk1, S1⟩, G1⟩ := id A1
  have HA1 := Lib.hid A1
  have HSM := Lib.hid hsm
  have hin := hsm.ins
  have hs1 := G1.size
  have bB := (Below.refl W1.heap.size W1).alloc (Nat.le_refl _) (.cells #[.slice a0 g.ins.length c0, .slice a1 g.outN.length c1, .slice a2 g.regs.length c2, .slice a3 g.ands.length c3, .slice a4 g.outs.length c4] 31)
  have X := GX.new W1 (.slice a0 g.ins.length c0) (.slice a1 g.outN.length c1) (.slice a2 g.regs.length c2) (.slice a3 g.ands.length c3) (.slice a4 g.outs.length c4) 31
  have HG2 := Lib.hid (hgs.below bB)
  have HS2 := Lib.hid (S1.below bB)
  have HBB := Lib.hid bB
  have hs2 := bB.size
  clear S0 S1 G1 A1 hsm hgs bB
  generalize W1.alloc (.cells #[.slice a0 g.ins.length c0, .slice a1 g.outN.length c1, .slice a2 g.regs.length c2, .slice a3 g.ands.length c3, .slice a4 g.outs.length c4] 31) = W2 at X HG2 HS2 HBB hs2 ⊢
  have hbq : b ≠ W1.heap.size := by omega
  generalize hq : W1.heap.size = q at X hbq ⊢
  have HQ := Lib.hid hq
  clear hq
  obtain ⟨x0, x1, x2, x3, x4⟩ := id X
  have HX := Lib.hid X
  clear X
  have HD := Lib.hid (show W2.drew.cell? ⟨q, 0, none⟩ = some (.slice a0 g.ins.length c0) from x0)
  go_cut [7] (fun s7 wx => ∃ ad cp L, s7 = .slice ad N cp ∧ Hid (L.length = N ∧ (∀ r ∈ L, r.length = g.ins.length) ∧ PL W2.heap.size L (.slice ad N cp) wx ∧ W2.grownBy wx (some b)))
  case first =>
    go_region_held3 (fun w' => w'.cell? ⟨q, 0, none⟩ = some (.slice a0 g.ins.length c0)) (first | (with_reducible exact HD.out) | (with_reducible exact hx3))
      (first
        | (go_at_call 17; refine (mbelow_any n 30 (by omega) (by omega) _).mono ?_; rintro ee w9 ⟨rfl, rfl⟩)
        | (go_at_call 16; refine (played_made b len cap a k1 N g.ins.length (by omega) (by omega) (by omega) W2.drew (HS2.out.below (Below.drew (Below.refl _ _)))).mono ?_; rintro ee W3 ⟨u3, rfl, ⟨L, hL, hLr, hPL⟩, A3⟩; have hx3 := (A3.gr).cell HD.out (by intro e; simp only [Option.some.injEq] at e; omega); obtain ⟨ad3, c3', hv3⟩ := hPL.slice; rw [hL] at hv3; subst hv3; have HA3 := Lib.hid (undrew A3.gr); have HPL := Lib.hid hPL; have HLL := Lib.hid hL; have HLR := Lib.hid hLr; clear A3 hPL hL hLr))
    all_goals (go_wp2_with fail; go_meet)
    exact ⟨_, _, L, rfl, Lib.hid ⟨HLL.out, HLR.out, HPL.out, HA3.out⟩⟩
  case rest =>
  obtain ⟨adt, cpt, L, rfl, HP⟩ := hcut
  rename World => W3
  obtain ⟨hL, hLr, hPL, hG3⟩ := HP.out
  have hf := HSM.out.md.ok
  have sg := HSM.out.md.small
  obtain ⟨hr1, hr2⟩ := run_ok hf (show L.length ≤ 64 by omega) hLr
  have X3 : GX q (.slice a0 g.ins.length c0) (.slice a1 g.outN.length c1) (.slice a2 g.regs.length c2) (.slice a3 g.ands.length c3) (.slice a4 g.outs.length c4) W3 := by
    have e := fun o v (h : W2.cell? ⟨q, o, none⟩ = some v) => hG3.cell h (show some q ≠ some b by intro e; simp only [Option.some.injEq] at e; omega)
    exact ⟨e _ _ HX.out.c0, e _ _ HX.out.c1, e _ _ HX.out.c2, e _ _ HX.out.c3, e _ _ HX.out.c4⟩
  have hGo := (HG2.out.kept hG3 hs0).go
  have hT := hPL.tr
  have HBB3 := Lib.hid (show Below w.heap.size w W3 by
    have e1 : Below b w W1 := by
      have := adv_low (w := w) (by rw [HB.out]; exact HA1.out) (by rw [HB.out]; exact HBA.out)
      rwa [HB.out] at this
    rw [HB.out]
    exact (e1.trans (HBB.out.mono (by omega))).trans ⟨hG3.os, hG3.tape, hG3.output, hG3.size, fun i hi => hG3.block i (by omega) (by intro e; simp only [Option.some.injEq] at e; omega)⟩)
  have H1 := Lib.hid (run_any g _ L _ sg (by omega) W3 hGo hT)
  rw [hr1, hr2] at H1
  have HPLn := Lib.hid (show (playL g (beginL g) L).length = N by rw [playL_len, hL])
  have HGET := Lib.hid (play_get g L (beginL g))
  clear hr1 hr2 x0 x1 x2 x3 x4 HP HG2 HS2 HD
  obtain ⟨x0, x1, x2, x3, x4⟩ := id X3
  go_upto_region 5 with (first | (go_at_call 18; refine H1.out.mono ?_; rintro ee W4 ⟨vl, rfl, R4, hb4⟩; obtain ⟨ado, co, vso, hvo, hco, hno, hlo, Ro, Rjo⟩ := R4; rw [HPLn.out] at hvo; subst hvo))
  have X4 := X3.below hb4
  have hGo4 := hGo.below hb4
  have hT4 := hT.below hb4
  have B4 := HBB3.out.trans (hb4.mono HBB3.out.size)
  have H2 := Lib.hid (HF.out W4)
  clear x0 x1 x2 x3 x4 X3 H1
  obtain ⟨x0, x1, x2, x3, x4⟩ := id X4
  go_upto_region 7 with (first | (go_at_call 19; refine H2.out.mono ?_; rintro ee W5 ⟨rfl, hb5⟩; replace X4 := X4.below hb5; replace hGo4 := hGo4.below hb5; replace hT4 := hT4.below hb5; replace B4 := B4.trans (hb5.mono B4.size); replace Ro := Ro.below hb5; replace Rjo := fun j hj => (Rjo j hj).below hb5; clear x0 x1 x2 x3 x4 hb5; obtain ⟨x0, x1, x2, x3, x4⟩ := id X4))
  have hreg := HSM.out.md.regs
  have hbl : (beginL g).length = g.regs.length := by simp [beginL]
  have H3 := Lib.hid (init_any g _ W5 sg hGo4)
  go_upto_region 8 with (first | (go_at_call 20; refine H3.out.mono ?_; rintro ee W6 ⟨q6, rfl, A6, hq6, hb6⟩; replace X4 := X4.below hb6; replace hGo4 := hGo4.below hb6; replace hT4 := hT4.below hb6; replace B4 := B4.trans (hb6.mono B4.size); replace Ro := Ro.below hb6; replace Rjo := fun j hj => (Rjo j hj).below hb6; clear x0 x1 x2 x3 x4 hb6 hq6))
  have HR0 := Lib.hid (A6.rowc g.regs.length hbl)
  obtain ⟨adt', cpt', vst, hvt, hct, hnt, hlt, Rt, Rjt⟩ := hT4
  injection hvt with g1 g2 g3
  subst g1 g3
  have HGO := Lib.hid (fun W (hb : Below W6.heap.size W6 W) => hGo4.below hb)
  have HX6 := Lib.hid (fun W (hb : Below W6.heap.size W6 W) => X4.below hb)
  have HRT := Lib.hid (fun W (hb : Below W6.heap.size W6 W) => Rt.below hb)
  have HRO := Lib.hid (fun W (hb : Below W6.heap.size W6 W) => Ro.below hb)
  have HJT := Lib.hid (fun j (hj : j < N) W (hb : Below W6.heap.size W6 W) => (Rjt j (by rw [hL]; exact hj)).below hb)
  have HJO := Lib.hid (fun j (hj : j < N) W (hb : Below W6.heap.size W6 W) => (Rjo j (by rw [HPLn.out]; exact hj)).below hb)
  have HLT := Lib.hid (hlt.trans hL)
  have HLO := Lib.hid (hlo.trans HPLn.out)
  have HB6 := Lib.hid B4
  have HLN := Lib.hid hL
  have HLR := Lib.hid hLr
  have HEV := Lib.hid (fun j (hj : j < N) => evals_fit (ins := L[j]!) (st := stL g (beginL g) (L.take j)) hf (hLr _ (mem1 L (by rw [hL]; exact hj))) (stL_len g (beginL g) hbl _))
  have HST := Lib.hid (fun j (hj : j < N) => stL_take g L (beginL g) (j := j) (by rw [hL]; exact hj))
  have HGT := Lib.hid (fun j (hj : j < N) => HGET.out j (by rw [hL]; exact hj))
  have HSL := Lib.hid (fun j => stL_len g (beginL g) hbl (L.take j))
  have hins := HSM.out.ins
  have hou := HSM.out.outs
  have hrg := HSM.out.regs
  have HSG := Lib.hid sg
  clear hT hPL hGo hL hLr hlt hlo B4 Ro Rjo Rt Rjt hGo4 X4 A6 hbl H3 hco hno hct hnt g2 hf sg hreg HGET H2
  have HR00 : Hid (RowC (fun b => Value.bool b) (stL g (beginL g) (L.take 0)) (.slice (some ⟨q6, 0, none⟩) g.regs.length g.regs.length) W6) := Lib.hid HR0.out
  go_upto_block 0 with fail
  go_wp2_with fail
  go_loopw [10, 51] (fun u i wr => ∃ j : Nat, j ≤ N ∧ i = .int .i64 (j : Int) ∧ Hid (RowC (fun b => Value.bool b) (stL g (beginL g) (L.take j)) u wr) ∧ Hid (Below W6.heap.size W6 wr)) (fun _ i _ => N - (intOf i).toNat)
  case atStart => exact ⟨0, Nat.zero_le _, rfl, HR00, Lib.hid (Below.refl _ _)⟩
  case round =>
    clear HR0 HR00
    obtain ⟨j, hj, rfl, hR, hB⟩ := hrel
    rename World => WR
    have hj0 : (0 : Int) ≤ (j : Int) := by omega
    by_cases hlt : j < N
    · have hji : (j : Int) < (N : Int) := by omega
      have hB1 := hB.out
      obtain ⟨bb, oo, hdd, hcell⟩ := (HRT.out WR hB1).pick (by rw [HLT.out]; omega)
      subst hdd
      have c0' := hcell j (by rw [HLT.out]; exact hlt) 0 _ rfl
      simp only [Nat.mul_one, Nat.add_zero] at c0'
      have hin := HJT.out j hlt WR hB1
      obtain ⟨ad2, cp2, hv2, _, _, _⟩ := id hin
      rw [hv2] at c0' hin
      obtain ⟨x0, x1, x2, x3, x4⟩ := HX6.out WR hB1
      obtain ⟨e1, e2, e3⟩ := HEV.out j hlt
      have hs2 := HSL.out j
      have hi2 := HLR.out _ (mem1 L (by rw [HLN.out]; exact hlt))
      have H1 := Lib.hid (eval_anyC g _ L[j]! (stL g (beginL g) (L.take j)) _ _ HSG.out (by omega) (by omega) WR (HGO.out WR hB1) hin hR.out)
      rw [e1, e2, e3] at H1
      have HB1 := Lib.hid hB1
      have HO2 := Lib.hid (show (shows g L[j]! (stL g (beginL g) (L.take j))).length ≤ 4000000000 by unfold shows; simp; omega)
      clear hcell hv2 hR hB hB1 e1 e2 e3 hs2 hi2 hin
      generalize L[j]!.length = m1 at c0' H1
      go_upto_region 12 with (first | (go_at_call 21; refine H1.out.mono ?_; rintro ee W7 ⟨vo, vn, rfl, R7, R8, hb7⟩))
      have hB7 := HB1.out.trans (hb7.mono HB1.out.size)
      obtain ⟨bo, oo2, hdd, hcell⟩ := (HRO.out W7 hB7).pick (by rw [HLO.out]; omega)
      subst hdd
      have c1' := hcell j (by rw [HLO.out]; exact hlt) 0 _ rfl
      simp only [Nat.mul_one, Nat.add_zero] at c1'
      have hou2 := HJO.out j hlt W7 hB7
      rw [HGT.out j hlt] at hou2
      obtain ⟨ad4, cp4, hv4, _, _, _⟩ := id hou2
      rw [hv4] at c1' hou2
      have H2 := Lib.hid (equalB_any _ _ vo _ HO2.out HO2.out W7 R7.row hou2.row)
      rw [decide_eq_true (rfl : shows g L[j]! (stL g (beginL g) (L.take j)) = shows g L[j]! (stL g (beginL g) (L.take j)))] at H2
      have HR8 := Lib.hid R8
      have HB7 := Lib.hid hB7
      clear hcell hv4 hou2 R7 R8 hb7 hB7 H1 x0 x1 x2 x3 x4
      generalize (shows g L[j]! (stL g (beginL g) (L.take j))).length = m2 at c1' H2
      go_wp2_with (first | (go_at_call 22; refine H2.out.mono ?_; rintro ee W8 ⟨rfl, hb8⟩))
      have HREL := Lib.hid (show RowC (fun b => Value.bool b) (stL g (beginL g) (L.take (j + 1))) vn W8 by rw [HST.out j hlt]; exact HR8.out.below hb8)
      have HB8 := Lib.hid (HB7.out.trans (hb8.mono HB7.out.size))
      clear hb8
      go_wp2_with fail
      go_roundw
      case rel => exact ⟨j + 1, by omega, by go_num, HREL, HB8⟩
      all_goals first | done | (simp [intOf]; done) | (simp [intOf]; omega)
    · have hji : ¬ (j : Int) < (N : Int) := by omega
      have HBE := Lib.hid (HB6.out.trans (hB.out.mono HB6.out.size))
      clear hR hB
      go_wp2_with fail
      go_ret
      exact ⟨rfl, HBE.out⟩
end Go.Proofs.Ytcpifmhcebfglaa
